/- Of the texts SC1, VA: what the card of this claim reaches. -/
import Derived.Test.YtfkcphbbabaefaaGreatDoorXD35
import Derived.Test.YtfkcphbbabaefaaGreatDoorXD36
import Derived.Test.YtfkcphbbabaefaaGreatDoorXD37
import Derived.Test.YtfkcphbbabaefaaGreatDoorXD3
import Derived.Test.YtfkcphbbabaefaaGreatDoorXD16
import Derived.Test.YtfkcphbbabaefaaGreatDoorXD13
namespace Go.Proofs.YtfkcphbbabaefaaGreatDoor
open Go Go.RowKit
theorem pmodL64 {a c bS cap : Nat} {w : World} {t : TypeId} (ho : Own w bS (B64 (bdig a)) t) (ha : a < R512) (hc : a % LL = c) : Calls Tryz.prog 26 #[.slice (some ⟨bS, 0, none⟩) 64 cap] w fun x w' => x = .returned (.agg (B32 (bdig c))) ∧ Below w.heap.size w w' := by
  have h := modLs_any (bdig a) 64 bS cap (by decide) (fun i _ => bdig_lt a i) w ho.lt (fun i hi => ho.cell (B64_at _ i hi))
  rw [vb64 ha, hc] at h
  exact h
theorem pjoin {a : Option Addr} {len cap : Nat} {ms : List (List Int)} {l : List Int} (hl : ms.flatten = l) (hn : l.length ≤ 1000000) (w : World) (hR : H.RowsV w a len cap ms) :
    Calls Tryz.prog 25 #[.slice a len cap] w fun e w' => ∃ a' cap', e = .returned (.slice a' l.length cap') ∧ H.BytesV w' a' l.length cap' l ∧ (a' = none → cap' = 0) ∧ Below w.heap.size w w' := by
  subst hl; exact H.join_any a len cap ms w hR hn
theorem psum512 {a : Option Addr} {cap z : Nat} {l : List Int} (hz : dn l = z) (hn : l.length ≤ 1000000) (w : World) (hm : Txt w a cap l) :
    Calls Tryz.prog 24 #[.slice a l.length cap] w fun e w' => e = .returned (.agg (B64 (bdig z))) ∧ Below w.heap.size w w' := by
  subst hz; rw [← dig_dn]; exact H.ref_any a cap l w hm.1 hm.2 hn
def factChal (z bA bB : Nat) (ta : Option Addr) (tc : Nat) (m l : List Int) : Nat → Value → Prop
  | 0, vq => vq = .slice (some ⟨bA, 0, none⟩) 32 32
  | 1, vq => vq = .slice (some ⟨bB, 0, none⟩) 32 32
  | 2, vq => vq = .slice ta m.length tc
  | 5, vq => vq = .agg (B64 (bdig z))
  | 6, vq => ∃ g, vq = .pointer (some ⟨g, 0, none⟩)
  | 3, vq => ∃ aq, vq = .slice aq 3 3
  | 4, vq => ∃ aq cq, vq = .slice aq l.length cq
  | _, _ => True
set_option maxRecDepth 100000 in
set_option maxHeartbeats 1000000 in
theorem challenge_at {p q k : Nat} {ta : Option Addr} {tc : Nat} {m : List Int} (Hk : Hid (dn (by32 p ++ (by32 q ++ m)) % LL = k)) (hl : m.length ≤ 1000) (w : World) (hm : Txt w ta tc m) : Calls Tryz.prog 28 #[.agg (B32 (bdig p)), .agg (B32 (bdig q)), .slice ta m.length tc] w fun x w' => x = .returned (.agg (B32 (bdig k))) ∧ Below w.heap.size w w' := by
  have hz := (zero_of_info zeroB32).1
  have hz64 := (zero_of_info zeroB64).1
  obtain ⟨l, Hl⟩ : ∃ l, Hid (by32 p ++ (by32 q ++ m) = l) := ⟨_, rfl⟩
  obtain ⟨z, Hz⟩ : ∃ z, Hid (dn l = z) := ⟨_, rfl⟩
  have hzl : Hid (z < R512) := by show _ < _; rw [← Hz.out]; exact dn_lt _
  have hzk : Hid (z % LL = k) := by show _ = _; rw [← Hz.out, ← Hl.out]; exact Hk.out
  have hfl : Hid ([by32 p, by32 q, m].flatten = l) := by show _ = _; rw [← Hl.out]; simp
  have hln : Hid (l.length ≤ 1000000) := by show _ ≤ _; rw [← Hl.out, List.length_append, List.length_append, by32_length, by32_length]; omega
  go_enter Tryz.func28, Tryz.ntmps28
  go_upto_region 1 with fail
  have hK := (((Kp.nil w).alloc (B32 (bdig p)) 22).alloc (B32 (bdig q)) 22).alloc (B32 fun _ => 0) 22
  rw [World.size_alloc, World.size_alloc] at hK
  generalize ((w.alloc (.cells (B32 (bdig p)) 22)).alloc (.cells (B32 (bdig q)) 22)).alloc (.cells (B32 fun _ => 0) 22) = W at *
  obtain ⟨bA, HbA⟩ : ∃ b, Hid (w.heap.size = b) := ⟨_, rfl⟩
  obtain ⟨bB, HbB⟩ : ∃ b, Hid (bA + 1 = b) := ⟨_, rfl⟩
  obtain ⟨bR, HbR⟩ : ∃ b, Hid (bB + 1 = b) := ⟨_, rfl⟩
  have le_bA : Hid (w.heap.size ≤ bA) := by show _ ≤ _; have := HbA.out; omega
  have le_bB : Hid (w.heap.size ≤ bB) := by show _ ≤ _; have := HbA.out; have := HbB.out; omega
  have le_bR : Hid (w.heap.size ≤ bR) := by show _ ≤ _; have := HbA.out; have := HbB.out; have := HbR.out; omega
  have ne_bA_bB : Hid (bA ≠ bB) := by show _ ≠ _; have := HbB.out; omega
  have ne_bA_bR : Hid (bA ≠ bR) := by show _ ≠ _; have := HbB.out; have := HbR.out; omega
  have ne_bB_bR : Hid (bB ≠ bR) := by show _ ≠ _; have := HbR.out; omega
  rw [HbA.out, HbB.out, HbR.out] at hK ⊢
  refine wp_region_told 16 (by kernel_rfl) (by kernel_rfl) (by rfl) (factChal z bA bB ta tc m l) (fun L vs wq => MkN 1 [(bR, B32 fun _ => 0, 22), (bB, B32 (bdig q), 22), (bA, B32 (bdig p), 22)] w (fun _ => B64 fun _ => 0) (fun _ => B64 (bdig z)) (fun _ => 26) (fun i => L (6 + i)) (fun i => L (7 + i)) (fun i => vs (6 + i)) wq ∧ (L 3 = true → L 4 = false → ∃ aq, vs 3 = .slice aq 3 3 ∧ H.RowsV wq aq 3 3 [by32 p, by32 q, m]) ∧ (L 4 = true → L 5 = false → ∃ aq cq, vs 4 = .slice aq l.length cq ∧ Txt wq aq cq l)) (fun _ => ⟨MkN.drew hK (fun _ _ => rfl), (fun h => by cases h), (fun h => by cases h)⟩) ?_ ?_
  · intro L vs ac wc i o hF hLi ho hd K hK
    rcases i with _ | _ | _ | _ | _ | _ | _ | _ | i
    · have ho' := ho
      obtain rfl := Option.some.inj ho
      have f3 : ac.tmps.getD 3 undef = .pointer (some ⟨bA, 0, none⟩) := slott hF 0 hLi 3 (by kernel_rfl)
      refine step_do ho' (wanted_free rfl) ?_
      unfold Oper.wp
      go_simp
      exact hK _ _ (.inr rfl) ⟨(hF.j.1.congr (fun i hi => if_off (by decide) hi) (fun i hi => if_off (by decide) hi) (fun i hi => if_off (by decide) hi)), hF.j.2.1, hF.j.2.2⟩
    · have ho' := ho
      obtain rfl := Option.some.inj ho
      have f4 : ac.tmps.getD 4 undef = .pointer (some ⟨bB, 0, none⟩) := slott hF 1 hLi 4 (by kernel_rfl)
      refine step_do ho' (wanted_free rfl) ?_
      unfold Oper.wp
      go_simp
      exact hK _ _ (.inr rfl) ⟨(hF.j.1.congr (fun i hi => if_off (by decide) hi) (fun i hi => if_off (by decide) hi) (fun i hi => if_off (by decide) hi)), hF.j.2.1, hF.j.2.2⟩
    · have ho' := ho
      obtain rfl := Option.some.inj ho
      have f2 : ac.tmps.getD 2 undef = .slice ta m.length tc := slott hF 2 hLi 2 (by kernel_rfl)
      refine step_do ho' (wanted_free rfl) ?_
      unfold Oper.wp
      go_simp
      exact hK _ _ (.inr rfl) ⟨(hF.j.1.congr (fun i hi => if_off (by decide) hi) (fun i hi => if_off (by decide) hi) (fun i hi => if_off (by decide) hi)), hF.j.2.1, hF.j.2.2⟩
    · have ho' := ho
      obtain rfl := Option.some.inj ho
      have f8 : ac.tmps.getD 8 undef = .slice (some ⟨bA, 0, none⟩) 32 32 := (factt hF hd 0 rfl rfl (by kernel_rfl)).1.trans (factt hF hd 0 rfl rfl (by kernel_rfl)).2
      have f9 : ac.tmps.getD 9 undef = .slice (some ⟨bB, 0, none⟩) 32 32 := (factt hF hd 1 rfl rfl (by kernel_rfl)).1.trans (factt hF hd 1 rfl rfl (by kernel_rfl)).2
      have f10 : ac.tmps.getD 10 undef = .slice ta m.length tc := (factt hF hd 2 rfl rfl (by kernel_rfl)).1.trans (factt hF hd 2 rfl rfl (by kernel_rfl)).2
      refine step_do ho' (wanted_free rfl) ?_
      have q8 := getq f8
      have q9 := getq f9
      have q10 := getq f10
      unfold Oper.wp
      go_simp
      exact hK _ _ (.inr ⟨_, rfl⟩) ⟨((hF.j.1.congr (fun i hi => if_off (by decide) hi) (fun i hi => if_off (by decide) hi) (fun i hi => if_off (by decide) hi))).below (alloc_below _ _), (fun _ _ => ⟨_, rfl, rows3 (bytes_own (hF.j.1.1.at bA (B32 (bdig p)) 22 (.tail _ (.tail _ (.head _))))) (fun h => by cases h) (bytes_own (hF.j.1.1.at bB (B32 (bdig q)) 22 (.tail _ (.head _)))) (fun h => by cases h) ((hm.below hF.j.1.1.2).1) hm.2⟩), (fun h1 h2 => txt_bel (hF.j.2.2 h1 h2) (alloc_below _ _))⟩
    · have ho' := ho
      obtain rfl := Option.some.inj ho
      refine step_do ho' (wanted_free rfl) ?_
      obtain ⟨aq, eq, hq⟩ := hF.j.2.1 (dep hd 3 (by kernel_rfl)) hLi
      have f11 := (factt hF hd 3 rfl rfl (by kernel_rfl)).1
      rw [eq] at f11
      unfold Oper.wp
      go_simp
      refine (pjoin hfl.out hln.out _ hq).mono ?_
      rintro e w' ⟨aj, cj, rfl, hv, hn, hB⟩
      exact hK _ _ (.inr ⟨_, _, rfl⟩) ⟨((hF.j.1.congr (fun i hi => if_off (by decide) hi) (fun i hi => if_off (by decide) hi) (fun i hi => if_off (by decide) hi))).below hB, (fun _ h => by cases h), (fun _ _ => ⟨_, _, rfl, hv, hn⟩)⟩
    · have ho' := ho
      obtain rfl := Option.some.inj ho
      refine step_do ho' (wanted_free rfl) ?_
      obtain ⟨aq, cq, eq, hq⟩ := hF.j.2.2 (dep hd 4 (by kernel_rfl)) hLi
      have f12 := (factt hF hd 4 rfl rfl (by kernel_rfl)).1
      rw [eq] at f12
      unfold Oper.wp
      go_simp
      refine (psum512 Hz.out hln.out _ hq).mono ?_
      rintro e w' ⟨rfl, hB⟩
      exact hK _ _ (.inr rfl) ⟨((hF.j.1.congr (fun i hi => if_off (by decide) hi) (fun i hi => if_off (by decide) hi) (fun i hi => if_off (by decide) hi))).below hB, (fun h1 h2 => rows_bel (hF.j.2.1 h1 h2) hB), (fun _ h => by cases h)⟩
    · have ho' := ho
      obtain rfl := Option.some.inj ho
      refine step_do ho' (wanted_free rfl) ?_
      have hs := notyett hF 6 hLi 7 rfl (by kernel_rfl)
      unfold Oper.wp
      go_simp
      exact hK _ _ (.inr ⟨_, rfl⟩) ⟨hF.j.1.alloc 0 (fun i _ hne => if_oth (k := 0) rfl hne) (fun i hi => if_off (by decide) hi) (fun i _ hne => if_oth (k := 0) rfl hne) rfl hs, (fun h1 h2 => rows_bel (hF.j.2.1 h1 h2) (alloc_below _ _)), (fun h1 h2 => txt_bel (hF.j.2.2 h1 h2) (alloc_below _ _))⟩
    · have ho' := ho
      obtain rfl := Option.some.inj ho
      have f13 : ac.tmps.getD 13 undef = .agg (B64 (bdig z)) := (factt hF hd 5 rfl rfl (by kernel_rfl)).1.trans (factt hF hd 5 rfl rfl (by kernel_rfl)).2
      refine step_do ho' (wanted_free rfl) ?_
      have hq5 := dep hd 5 (by kernel_rfl)
      have hq4 := dept hF 5 rfl hq5 4 (by kernel_rfl)
      obtain ⟨fg, gq, hg⟩ := factt hF hd 6 rfl rfl (by kernel_rfl)
      have hm_ := dep hd 6 (by kernel_rfl)
      have hj := hF.j.1
      rw [hg] at fg
      have hj2 := hj.at (k := 0) (by decide) hm_ hg hLi
      refine wp_store_own 26 (.tmp 7) (.tmp 13) rfl gq (B64 (bdig z)) fg f13 hj2.2.2 (B64_sizes _ _) (B64_info _) (B64_one _) rfl ?_
      exact hK undef _ (.inl rfl) ⟨hj.storeA (k := 0) (A := B64 (bdig z)) rfl (by decide) hm_ hg hLi (B64_sizes _ _) (fun i hi => if_off (by decide) hi) (fun i _ hne => if_oth (k := 0) rfl hne) (fun i hi => if_off (by decide) hi) rfl, (fun _ h => by have h : L 4 = false := h; rw [hq4] at h; cases h), (fun _ h => by have h : L 5 = false := h; rw [hq5] at h; cases h)⟩
    · cases ho
  intro L vs V1 hL hJ hf
  have hJ := hJ.1
  obtain ⟨aq3, eb3⟩ := hf 3 _ _ rfl rfl
  obtain ⟨aq4, cq, eb4⟩ := hf 4 _ _ rfl rfl
  obtain ⟨g2, hgg2⟩ := hf 6 _ _ rfl rfl
  obtain ⟨le0, apg2, owng2⟩ := hJ.gotA (k := 0) (A := B64 (bdig z)) rfl (by decide) (hL 6 (by decide)) hgg2 (hL 7 (by decide))
  have le_g2 := show Hid _ from le0
  clear le0
  have ne_bR_g2 : Hid (bR ≠ g2) := apg2 (bR, B32 fun _ => 0, 22) (.head _)
  have ne_bB_g2 : Hid (bB ≠ g2) := apg2 (bB, B32 (bdig q), 22) (.tail _ (.head _))
  have ne_bA_g2 : Hid (bA ≠ g2) := apg2 (bA, B32 (bdig p), 22) (.tail _ (.tail _ (.head _)))
  have hK : Kp [(g2, B64 (bdig z), 26), (bR, B32 fun _ => 0, 22), (bB, B32 (bdig q), 22), (bA, B32 (bdig p), 22)] w V1 := (hJ.1.cons owng2)
  have e0 : vs 0 = _ := hf 0 _ _ rfl rfl
  have e1 : vs 1 = _ := hf 1 _ _ rfl rfl
  have e2 : vs 2 = _ := hf 2 _ _ rfl rfl
  have e5 : vs 5 = _ := hf 5 _ _ rfl rfl
  simp only [putAll, Nat.zero_add, Nat.reduceAdd, e0, e1, e2, e5, eb3, eb4, hgg2, Act.put, List.setIfInBounds_toArray, List.set_cons_succ, List.set_cons_zero]
  clear hJ hf hL e0 e1 e2 e5 eb3 eb4 hgg2 apg2 owng2
  go_wp2_with fail
  refine (pmodL64 (hK.at g2 (B64 (bdig z)) 26 (.head _)) hzl.out hzk.out).mono ?_
  rintro e V3 ⟨rfl, bw⟩
  have hK := hK.below bw
  clear bw
  go_wp2_with (refine wpList_store_own (op := { dst := none, op := _, type := _, pos := _, after := _, guard := _ }) rfl 22 (.tmp 6) (.tmp 15) rfl bR 0 (B32 (bdig k)) (by rfl) (by rfl) (hK.at bR (B32 fun _ => 0) 22 (.tail _ (.head _))) (B32_le _ _) (B32_info _) (B32_one _) (by rfl) ?_)
  exact bodyPost_ret (results_own Tryz.results28 _ _ bR (B32 (bdig k)) _ (by rfl) (own_setCells (hK.at bR (B32 fun _ => 0) 22 (.tail _ (.head _))) (B32_sizes _ _)) Tryz.underlying22 rfl (B32_info _)) rfl ⟨rfl, Below.setCells _ _ _ _ le_bR.out hK.2⟩
end Go.Proofs.YtfkcphbbabaefaaGreatDoor
namespace Go.Proofs.YtfkcphbbabaefaaGreatDoor
open Go Go.RowKit
def PA (r : N4) : Array Value := #[.int .u64 (dig r.X 0 : Int), .int .u64 (dig r.X 1 : Int), .int .u64 (dig r.X 2 : Int), .int .u64 (dig r.X 3 : Int), .int .u64 (dig r.Y 0 : Int), .int .u64 (dig r.Y 1 : Int), .int .u64 (dig r.Y 2 : Int), .int .u64 (dig r.Y 3 : Int), .int .u64 (dig r.Z 0 : Int), .int .u64 (dig r.Z 1 : Int), .int .u64 (dig r.Z 2 : Int), .int .u64 (dig r.Z 3 : Int), .int .u64 (dig r.T 0 : Int), .int .u64 (dig r.T 1 : Int), .int .u64 (dig r.T 2 : Int), .int .u64 (dig r.T 3 : Int)]
theorem infoPA : (Tryz.prog.info? 52).map (·.size) = some 16 := by kernel_rfl
theorem PA_info (r : N4) : (Tryz.prog.info? 52).map (·.size) = some (PA r).size := infoPA
theorem PA_one (r : N4) : (PA r).all (·.oneCell') = true := by simp [PA, Value.oneCell']
theorem PA_sizes (r s : N4) : (PA r).size = (PA s).size := rfl
theorem zeroPA : (Tryz.prog.info? 52).map (fun i => (i.zero, i.size)) = some (some (.agg (PA ⟨0, 0, 0, 0⟩)), 16) := by kernel_rfl
def N4.get (r : N4) : Nat → Nat
  | 0 => r.X
  | 1 => r.Y
  | 2 => r.Z
  | _ => r.T
theorem PA_part (r : N4) (k : Nat) (hk : k < 4) {w : World} {b : Nat} {t : TypeId} (h : Own w b (PA r) t) : w.rangeAt b (4 * k) (numA (r.get k)).toList := fun j v hv => by
  have hj : j < 4 := by
    have := (List.getElem?_eq_some_iff.1 hv).1
    simpa [numA, A4] using this
  refine h.cell ?_
  rw [← hv]
  rcases k with _ | _ | _ | _ | k
  · rcases j with _ | _ | _ | _ | j <;> first | rfl | omega
  · rcases j with _ | _ | _ | _ | j <;> first | rfl | omega
  · rcases j with _ | _ | _ | _ | j <;> first | rfl | omega
  · rcases j with _ | _ | _ | _ | j <;> first | rfl | omega
  · omega
theorem numA_len (n : Nat) : (Tryz.prog.info? 50).map (·.size) = some (numA n).toList.length := infoNum
theorem wp_load_part {op : Oper} {a : Act} {w : World} {K : Act → World → Prop} {Q : Exit → Act → World → Prop} (k : Nat) (hk : k < 4) (x : Operand) (ho : op.op = .load 50 x)
    (b : Nat) (hx : a.eval x = .pointer (some ⟨b, 4 * k, none⟩)) {r : N4} {t : TypeId} (hc : Own w b (PA r) t) (h : K (a.put op.dst (.agg (numA (r.get k)))) w) : op.wp Tryz.prog a w K Q :=
  wp_load_mid 50 x ho b (4 * k) hx (numA (r.get k)).toList _ (PA_part r k hk hc) Tryz.underlying50 rfl (numA_len _) h
theorem wpList_load_part {ops : Array Oper} {rest : List Oper} {op : Oper} {a : Act} {w : World} {Q : Exit → Act → World → Prop} (hgd : op.guard = none) (k : Nat) (hk : k < 4) (x : Operand) (ho : op.op = .load 50 x)
    (b : Nat) (hx : a.eval x = .pointer (some ⟨b, 4 * k, none⟩)) {r : N4} {t : TypeId} (hc : Own w b (PA r) t) (h : wpList Tryz.prog ops Q rest (a.put op.dst (.agg (numA (r.get k)))) w) : wpList Tryz.prog ops Q (op :: rest) a w :=
  wpList_load_mid hgd 50 x ho b (4 * k) hx (numA (r.get k)).toList _ (PA_part r k hk hc) Tryz.underlying50 rfl (numA_len _) h
end Go.Proofs.YtfkcphbbabaefaaGreatDoor
namespace Go.Proofs.YtfkcphbbabaefaaGreatDoor
open Go Go.RowKit
theorem subp_lt (a b : Nat) : subp a b < R256 := lt_of_mod
theorem fsub_at {a b c : Nat} (ha : a < R256) (hb : b < R256) (hc : subp a b = c) (w : World) : Calls Tryz.prog 65 #[.agg (numA a), .agg (numA b)] w fun e w' => e = .returned (.agg (numA c)) ∧ Below w.heap.size w w' := by
  rw [← hc]; exact fsub_any a b ha hb w
theorem fadd_at {a b c : Nat} (ha : a < R256) (hb : b < R256) (hc : (a + b) % pp = c) (w : World) : Calls Tryz.prog 67 #[.agg (numA a), .agg (numA b)] w fun e w' => e = .returned (.agg (numA c)) ∧ Below w.heap.size w w' := by
  rw [← hc]; exact fadd_any a b ha hb w
theorem inv_at {a c : Nat} (ha : a < R256) (hc : finv a = c) (w : World) : Calls Tryz.prog 66 #[.agg (numA a)] w fun x w' => x = .returned (.agg (numA c)) ∧ Below w.heap.size w w' := by
  rw [← hc]; exact inv_any a ha w
theorem finv_R (a : Nat) : finv a < R256 := Nat.lt_trans (finv_lt a) (by decide)
theorem PA_size (r : N4) : (PA r).size = 16 := rfl
theorem put0 (X Y Z T x : Nat) : Array.foldl (fun cs p => cs.setIfInBounds p.snd p.fst) (PA ⟨X, Y, Z, T⟩) (numA x).zipIdx 0 4 = PA ⟨x, Y, Z, T⟩ := by kernel_rfl
theorem put4 (X Y Z T x : Nat) : Array.foldl (fun cs p => cs.setIfInBounds (4 + p.snd) p.fst) (PA ⟨X, Y, Z, T⟩) (numA x).zipIdx 0 4 = PA ⟨X, x, Z, T⟩ := by kernel_rfl
theorem put8 (X Y Z T x : Nat) : Array.foldl (fun cs p => cs.setIfInBounds (8 + p.snd) p.fst) (PA ⟨X, Y, Z, T⟩) (numA x).zipIdx 0 4 = PA ⟨X, Y, x, T⟩ := by kernel_rfl
theorem put12 (X Y Z T x : Nat) : Array.foldl (fun cs p => cs.setIfInBounds (12 + p.snd) p.fst) (PA ⟨X, Y, Z, T⟩) (numA x).zipIdx 0 4 = PA ⟨X, Y, Z, x⟩ := by kernel_rfl
theorem wp_build_pt {op : Oper} {a : Act} {w : World} {K : Act → World → Prop} {Q : Exit → Act → World → Prop} (t0 t1 t2 t3 : Tmp) (X Y Z T : Nat) (ho : op.op = .build 52 #[(0, .tmp t0), (1, .tmp t1), (2, .tmp t2), (3, .tmp t3)])
    (f0 : a.tmps.getD t0 undef = .agg (numA X)) (f1 : a.tmps.getD t1 undef = .agg (numA Y)) (f2 : a.tmps.getD t2 undef = .agg (numA Z)) (f3 : a.tmps.getD t3 undef = .agg (numA T)) (h : K (a.put op.dst (.agg (PA ⟨X, Y, Z, T⟩))) w) : op.wp Tryz.prog a w K Q := by
  have hzP := (zero_of_info zeroPA).1
  have g0 := getq f0
  have g1 := getq f1
  have g2 := getq f2
  have g3 := getq f3
  unfold Oper.wp execOp
  rw [ho]
  go_simp
  simp only [numA_size, put0, put4, put8, put12, PA_size]
  go_simp
  exact h
theorem dd_page : subp 0 121665 * finv 121666 % pp = dd := by
  have h1 : subp 0 121665 = 121666 * dd % pp := by decide +kernel
  have h2 := finv_mul (a := 121666) (by decide)
  generalize finv 121666 = x at *
  rw [h1, Nat.mod_mul_mod, Nat.mul_right_comm, Nat.mul_mod, h2, Nat.one_mul, Nat.mod_mod, Nat.mod_eq_of_lt dd_lt]
set_option maxRecDepth 100000 in
set_option maxHeartbeats 4000000 in
theorem d_any (w : World) : Calls Tryz.prog 68 #[] w fun x w' => x = .returned (.agg (numA dd)) ∧ Below w.heap.size w w' := by
  have hz := (zero_of_info zeroLit).1
  obtain ⟨r, Hd⟩ : ∃ r, Hid (dd = r) := ⟨_, rfl⟩
  obtain ⟨s, Hs⟩ : ∃ x, Hid (subp 0 121665 = x) := ⟨_, rfl⟩
  obtain ⟨i, Hi⟩ : ∃ x, Hid (finv 121666 = x) := ⟨_, rfl⟩
  have Hr : Hid (s * i % pp = r) := by show _ = _; rw [← Hd.out, ← Hs.out, ← Hi.out]; exact dd_page
  have hs : s < R256 := by rw [← Hs.out]; exact subp_lt _ _
  have hi : i < R256 := by rw [← Hi.out]; exact finv_R _
  rw [Hd.out]
  go_enter Tryz.func68, Tryz.ntmps68
  go_upto_region 1 with fail
  have hK := (Kp.nil w).alloc (numA 0) 50
  rw [show (#[.int .u64 0, .int .u64 0, .int .u64 0, .int .u64 0] : Array Value) = numA 0 from rfl]
  generalize w.alloc (.cells (numA 0) 50) = W at *
  obtain ⟨bR, HbR⟩ : ∃ b, Hid (w.heap.size = b) := ⟨_, rfl⟩
  have le_bR : Hid (w.heap.size ≤ bR) := by show _ ≤ _; have := HbR.out; omega
  rw [HbR.out] at hK ⊢
  go_wp2_with fail
  rw [show (#[.int .u64 0, .int .u64 0, .int .u64 0, .int .u64 0] : Array Value) = numA 0 from rfl]
  rw [show (#[.int .u64 121665, .int .u64 0, .int .u64 0, .int .u64 0] : Array Value) = numA 121665 from (numA_word 121665 (by decide)).symm]
  refine (fsub_at (by decide) (by decide) Hs.out _).mono ?_
  rintro e V1 ⟨rfl, bw⟩
  have hK := hK.below bw
  clear bw
  go_wp2_with fail
  rw [show (#[.int .u64 121666, .int .u64 0, .int .u64 0, .int .u64 0] : Array Value) = numA 121666 from (numA_word 121666 (by decide)).symm]
  refine (inv_at (by decide) Hi.out _).mono ?_
  rintro e V2 ⟨rfl, bw⟩
  have hK := hK.below bw
  clear bw
  go_wp2_with fail
  refine (mul_at hs hi Hr.out _).mono ?_
  rintro e V3 ⟨rfl, bw⟩
  have hK := hK.below bw
  clear bw
  go_wp2_with (refine wpList_store_own (by rfl) 50 (.tmp 0) (.tmp 6) (by rfl) bR 0 (numA r) (by rfl) (by rfl) (hK.at bR (numA 0) 50 (.head _)) (Nat.le_refl _) (numA_info _) (numA_one _) (by rfl) ?_)
  exact bodyPost_ret (results_own Tryz.results68 _ _ bR (numA r) _ (by rfl) (own_setCells (hK.at bR (numA 0) 50 (.head _)) (numA_sizes _ _)) Tryz.underlying50 rfl (numA_info _)) rfl ⟨rfl, Below.setCells _ _ _ _ le_bR.out hK.2⟩
set_option maxRecDepth 100000 in
set_option maxHeartbeats 4000000 in
theorem zero_any (w : World) : Calls Tryz.prog 80 #[] w fun x w' => x = .returned (.agg (PA zero4)) ∧ Below w.heap.size w w' := by
  have hz := (zero_of_info zeroLit).1
  have hzP := (zero_of_info zeroPA).1
  go_enter Tryz.func80, Tryz.ntmps80
  go_upto_region 1 with fail
  have hK := (Kp.nil w).alloc (PA ⟨0, 0, 0, 0⟩) 52
  generalize w.alloc (.cells (PA ⟨0, 0, 0, 0⟩) 52) = W at *
  obtain ⟨bR, HbR⟩ : ∃ b, Hid (w.heap.size = b) := ⟨_, rfl⟩
  have le_bR : Hid (w.heap.size ≤ bR) := by show _ ≤ _; have := HbR.out; omega
  rw [HbR.out] at hK ⊢
  go_wp2_with (refine wpList_store_own (by rfl) 52 (.tmp 0) (.tmp 5) (by rfl) bR 0 (PA zero4) (by rfl) (by rfl) (hK.at bR (PA ⟨0, 0, 0, 0⟩) 52 (.head _)) (Nat.le_refl _) (PA_info _) (PA_one _) (by rfl) ?_)
  exact bodyPost_ret (results_own Tryz.results80 _ _ bR (PA zero4) _ (by rfl) (own_setCells (hK.at bR (PA ⟨0, 0, 0, 0⟩) 52 (.head _)) (PA_sizes _ _)) Tryz.underlying52 rfl (PA_info _)) rfl ⟨rfl, Below.setCells _ _ _ _ le_bR.out hK.2⟩
end Go.Proofs.YtfkcphbbabaefaaGreatDoor
