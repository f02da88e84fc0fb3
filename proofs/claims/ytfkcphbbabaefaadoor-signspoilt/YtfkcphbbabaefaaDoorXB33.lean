/- Of the texts SV2: what the card of this claim reaches. -/
import Derived.Test.YtfkcphbbabaefaaDoorXB28
import Derived.Test.YtfkcphbbabaefaaDoorXB32
namespace Go.Proofs.YtfkcphbbabaefaaDoor
open Go Go.RowKit
def valPv2 (b1 bS : Nat) : Nat → Value
  | 0 => .slice (some ⟨b1, 0, none⟩) 32 32
  | 1 => .slice (some ⟨bS, 0, none⟩) 32 64
  | 2 => .int .i64 (32)
  | _ => undef
def valPv3 (b2 bS : Nat) : Nat → Value
  | 0 => .slice (some ⟨b2, 0, none⟩) 32 32
  | 1 => .slice (some ⟨bS, 32, none⟩) 32 32
  | 2 => .int .i64 (32)
  | _ => undef
def factPv9 (p R k : Nat) (f : Nat → Nat) (u2 : Bool) (ta : Option Addr) (tc : Nat) (m : List Int) : Nat → Value → Prop
  | 0, vq => vq = .agg (B32 (bdig R))
  | 1, vq => vq = .agg (B32 (bdig p))
  | 2, vq => vq = .slice ta m.length tc
  | 3, vq => vq = .agg (B32 (bdig k))
  | 4, vq => vq = .agg (B32 (bdig p))
  | 5, vq => vq = .tuple #[.agg (B32 f), .bool u2]
  | 6, vq => vq = .tuple #[.agg (B32 f), .bool u2]
  | 7, vq => vq = .agg (B32 f)
  | 8, vq => vq = .bool u2
  | 11, vq => vq = .bool u2
  | 9, vq => ∃ g, vq = .pointer (some ⟨g, 0, none⟩)
  | _, _ => True
def valPv13 (S t : Nat) (g : Nat → Nat) (v0 : Bool) : Nat → Value
  | 0 => .agg (B32 g)
  | 1 => .agg (B32 (bdig S))
  | 2 => .agg (B32 (bdig t))
  | 3 => .bool v0
  | 4 => .bool v0
  | _ => undef
set_option maxRecDepth 100000 in
set_option maxHeartbeats 1000000 in
theorem pverify_gen {p R S k t : Nat} {f g : Nat → Nat} {rq : N4} {u0 u1 u2 u3 v0 v : Bool} {ta : Option Addr} {tc : Nat} {m : List Int} (lR : Hid (R < R256)) (lS : Hid (S < R256)) (Hk : Hid (dn (by32 R ++ (by32 p ++ m)) % LL = k)) (hS : Hid (decide (S < LL) = u0))
    (hD : Hid (∀ w, Calls Tryd.prog 24 #[.agg (B32 (bdig R))] w fun x w' => x = .returned (.tuple #[.agg (PA rq), .bool u1]) ∧ Below w.heap.size w w')) (hM : Hid (∀ w, Calls Tryd.prog 25 #[.agg (B32 (bdig k)), .agg (B32 (bdig p))] w fun x w' => x = .returned (.tuple #[.agg (B32 f), .bool u2]) ∧ Below w.heap.size w w')) (hA : Hid (u1 = true → u2 = true → (∀ w, Calls Tryd.prog 27 #[.agg (B32 (bdig R)), .agg (B32 f)] w fun x w' => x = .returned (.tuple #[.agg (B32 g), .bool u3]) ∧ Below w.heap.size w w')))
    (Ht : Hid (enc (Pt.times S BP) = t)) (heq : ∀ w, (Op.equalIn 10000 22 (.agg (B32 g)) (.agg (B32 (bdig t)))).run Tryd.prog w = .ok v0 w)
    (h0 : Hid (u0 = false → v = false)) (h1 : Hid (u1 = false → v = false)) (h2 : Hid (u2 = false → v = false)) (h3 : Hid (u0 = true → u1 = true → u2 = true → v0 = v)) (hl : m.length ≤ 1000) (w : World) (hm : Txt w ta tc m) : Calls Tryd.prog 8 #[.agg (B32 (bdig p)), .slice ta m.length tc, .agg (B64 (bdig (two R S)))] w fun x w' => x = .returned (.bool v) ∧ Below w.heap.size w w' := by
  have hz := (zero_of_info zeroB32).1
  have hzP := (zero_of_info zeroPA).1
  have hbl : Hid (∀ w, Calls Tryd.prog 23 #[.agg (B32 (bdig S))] w fun x w' => x = .returned (.bool u0) ∧ Below w.heap.size w w') := fun w => by rw [← hS.out]; exact below_any S lS.out w
  have hbs : Hid (∀ w, Calls Tryd.prog 28 #[.agg (B32 (bdig S))] w fun x w' => x = .returned (.agg (B32 (bdig t))) ∧ Below w.heap.size w w') := fun w => by rw [← Ht.out]; exact pbase S lS.out w
  go_enter Tryd.func8, Tryd.ntmps8
  go_upto_region 1 with fail
  have hK := ((Kp.nil w).alloc (B32 (bdig p)) 22).alloc (B64 (bdig (two R S))) 24
  rw [World.size_alloc] at hK
  generalize (w.alloc (.cells (B32 (bdig p)) 22)).alloc (.cells (B64 (bdig (two R S))) 24) = W at *
  obtain ⟨bA, HbA⟩ : ∃ b, Hid (w.heap.size = b) := ⟨_, rfl⟩
  obtain ⟨bS, HbS⟩ : ∃ b, Hid (bA + 1 = b) := ⟨_, rfl⟩
  have le_bA : Hid (w.heap.size ≤ bA) := by show _ ≤ _; have := HbA.out; omega
  have le_bS : Hid (w.heap.size ≤ bS) := by show _ ≤ _; have := HbA.out; have := HbS.out; omega
  have ne_bA_bS : Hid (bA ≠ bS) := by show _ ≠ _; have := HbS.out; omega
  rw [HbA.out, HbS.out] at hK ⊢
  go_upto_region 2 with fail
  have lt_bS := (hK.at bS (B64 (bdig (two R S))) 24 (.head _)).lt
  have lt_bA := (hK.at bA (B32 (bdig p)) 22 (.tail _ (.head _))).lt
  have le_b1 := show Hid _ from hK.2.size
  have hK := (hK.alloc (B32 fun _ => 0) 22).alloc (B32 fun _ => 0) 22
  rw [World.size_alloc] at hK
  obtain ⟨b1, Hb1⟩ : ∃ b, Hid (W.heap.size = b) := ⟨_, rfl⟩
  obtain ⟨b2, Hb2⟩ : ∃ b, Hid (b1 + 1 = b) := ⟨_, rfl⟩
  have le_b1 : Hid (w.heap.size ≤ b1) := by show _ ≤ _; rw [← Hb1.out]; exact le_b1.out
  have le_b2 : Hid (w.heap.size ≤ b2) := by show _ ≤ _; have := Hb2.out; have := le_b1.out; omega
  have ne_bS_b1 : Hid (bS ≠ b1) := by show _ ≠ _; have := Hb1.out; omega
  have ne_bS_b2 : Hid (bS ≠ b2) := by show _ ≠ _; have := Hb1.out; have := Hb2.out; omega
  have ne_bA_b1 : Hid (bA ≠ b1) := by show _ ≠ _; have := Hb1.out; omega
  have ne_bA_b2 : Hid (bA ≠ b2) := by show _ ≠ _; have := Hb1.out; have := Hb2.out; omega
  have ne_b1_b2 : Hid (b1 ≠ b2) := by show _ ≠ _; have := Hb2.out; omega
  clear lt_bS lt_bA
  rw [Hb1.out, Hb2.out] at hK
  rw [Hb1.out, Hb2.out]
  generalize (W.alloc (.cells (B32 fun _ => 0) 22)).alloc (.cells (B32 fun _ => 0) 22) = V3 at *
  refine wp_region_vals 50 (by kernel_rfl) (by kernel_rfl) (by rfl) (valPv2 b1 bS) (fun L => Kp [(b2, B32 fun _ => 0, 22), (b1, if L 2 = true then B32 (bdig R) else B32 fun _ => 0, 22), (bS, B64 (bdig (two R S)), 24), (bA, B32 (bdig p), 22)] w) hK.drew ?_ ?_
  · intro L ac wc i o hF hLi ho hd K hK
    rcases i with _ | _ | _ | i
    · have ho' := ho
      obtain rfl := Option.some.inj ho
      have f7 : ac.tmps.getD 7 undef = .pointer (some ⟨b1, 0, none⟩) := slotv hF 0 hLi 7 (by kernel_rfl)
      refine step_do ho' (wanted_free rfl) ?_
      unfold Oper.wp
      go_simp
      exact hK _ _ (.inr rfl) hF.j
    · have ho' := ho
      obtain rfl := Option.some.inj ho
      have f5 : ac.tmps.getD 5 undef = .pointer (some ⟨bS, 0, none⟩) := slotv hF 1 hLi 5 (by kernel_rfl)
      refine step_do ho' (wanted_free rfl) ?_
      unfold Oper.wp
      go_simp
      exact hK _ _ (.inr rfl) hF.j
    · have ho' := ho
      obtain rfl := Option.some.inj ho
      have f13 : ac.tmps.getD 13 undef = .slice (some ⟨b1, 0, none⟩) 32 32 := valv hF hd 0 rfl rfl (by kernel_rfl)
      have f14 : ac.tmps.getD 14 undef = .slice (some ⟨bS, 0, none⟩) 32 64 := valv hF hd 1 rfl rfl (by kernel_rfl)
      refine step_do ho' (wanted_free rfl) ?_
      have hjo := hF.j
      rw [hLi] at hjo
      have hjo : Own wc b1 (B32 fun _ => 0) 22 := hjo.at b1 (B32 fun _ => 0) 22 (.tail _ (.head _))
      have hrg : wc.rangeAt bS 0 (B32 (bdig R)).toList := (B64_lo2 lR.out (hF.j.at bS (B64 (bdig (two R S))) 24 (.tail _ (.tail _ (.head _)))))
      refine wp_copy_at (.tmp 13) (.tmp 14) 23 23 rfl 5 Tryd.underlying23 infoU8s b1 0 32 32 bS 0 32 64 f13 f14 hjo _ hrg (by rw [B32_len0]; rfl) (by rw [B32_len0, B32_size]; decide) (B32_ones _) ?_
      rw [join32 R, B32_len0]
      have hj := hF.j
      rw [hLi] at hj
      have hj : Kp [(b2, B32 fun _ => 0, 22), (b1, B32 fun _ => 0, 22), (bS, B64 (bdig (two R S)), 24), (bA, B32 (bdig p), 22)] w wc := hj
      have hj : Kp [(b1, B32 fun _ => 0, 22), (b2, B32 fun _ => 0, 22), (bS, B64 (bdig (two R S)), 24), (bA, B32 (bdig p), 22)] w wc := ((((hj.none.cons (hj.at bA (B32 (bdig p)) 22 (.tail _ (.tail _ (.tail _ (.head _)))))).cons (hj.at bS (B64 (bdig (two R S))) 24 (.tail _ (.tail _ (.head _))))).cons (hj.at b2 (B32 fun _ => 0) 22 (.head _))).cons (hj.at b1 (B32 fun _ => 0) 22 (.tail _ (.head _))))
      have hj := Kp.row (A' := B32 (bdig R)) hj (by simp only [List.forall_mem_cons, List.not_mem_nil, false_implies, implies_true, and_true]; exact ⟨(Ne.symm ne_b1_b2.out), ne_bS_b1.out, ne_bA_b1.out⟩) le_b1.out
      exact hK _ _ (.inr rfl) ((((hj.none.cons (hj.at bA (B32 (bdig p)) 22 (.tail _ (.tail _ (.tail _ (.head _)))))).cons (hj.at bS (B64 (bdig (two R S))) 24 (.tail _ (.tail _ (.head _))))).cons (hj.at b1 (B32 (bdig R)) 22 (.head _))).cons (hj.at b2 (B32 fun _ => 0) 22 (.tail _ (.head _))))
    · cases ho
  intro L V4 hL hKq
  rw [hL 2 (by decide)] at hKq
  have hK : Kp [(b2, B32 fun _ => 0, 22), (b1, B32 (bdig R), 22), (bS, B64 (bdig (two R S)), 24), (bA, B32 (bdig p), 22)] w V4 := hKq
  clear hKq hL
  simp only [putAll, valPv2, Act.put, List.setIfInBounds_toArray, List.set_cons_succ, List.set_cons_zero]
  go_upto_region 3 with fail
  refine wp_region_vals 50 (by kernel_rfl) (by kernel_rfl) (by rfl) (valPv3 b2 bS) (fun L => Kp [(b2, if L 2 = true then B32 (bdig S) else B32 fun _ => 0, 22), (b1, B32 (bdig R), 22), (bS, B64 (bdig (two R S)), 24), (bA, B32 (bdig p), 22)] w) hK.drew ?_ ?_
  · intro L ac wc i o hF hLi ho hd K hK
    rcases i with _ | _ | _ | i
    · have ho' := ho
      obtain rfl := Option.some.inj ho
      have f8 : ac.tmps.getD 8 undef = .pointer (some ⟨b2, 0, none⟩) := slotv hF 0 hLi 8 (by kernel_rfl)
      refine step_do ho' (wanted_free rfl) ?_
      unfold Oper.wp
      go_simp
      exact hK _ _ (.inr rfl) hF.j
    · have ho' := ho
      obtain rfl := Option.some.inj ho
      have f5 : ac.tmps.getD 5 undef = .pointer (some ⟨bS, 0, none⟩) := slotv hF 1 hLi 5 (by kernel_rfl)
      refine step_do ho' (wanted_free rfl) ?_
      unfold Oper.wp
      go_simp
      exact hK _ _ (.inr rfl) hF.j
    · have ho' := ho
      obtain rfl := Option.some.inj ho
      have f16 : ac.tmps.getD 16 undef = .slice (some ⟨b2, 0, none⟩) 32 32 := valv hF hd 0 rfl rfl (by kernel_rfl)
      have f17 : ac.tmps.getD 17 undef = .slice (some ⟨bS, 32, none⟩) 32 32 := valv hF hd 1 rfl rfl (by kernel_rfl)
      refine step_do ho' (wanted_free rfl) ?_
      have hjo := hF.j
      rw [hLi] at hjo
      have hjo : Own wc b2 (B32 fun _ => 0) 22 := hjo.at b2 (B32 fun _ => 0) 22 (.head _)
      have hrg : wc.rangeAt bS 32 (B32 (bdig S)).toList := (B64_hi2 lR.out (hF.j.at bS (B64 (bdig (two R S))) 24 (.tail _ (.tail _ (.head _)))))
      refine wp_copy_at (.tmp 16) (.tmp 17) 23 23 rfl 5 Tryd.underlying23 infoU8s b2 0 32 32 bS 32 32 32 f16 f17 hjo _ hrg (by rw [B32_len0]; rfl) (by rw [B32_len0, B32_size]; decide) (B32_ones _) ?_
      rw [join32 S, B32_len0]
      have hj := hF.j
      rw [hLi] at hj
      have hj : Kp [(b2, B32 fun _ => 0, 22), (b1, B32 (bdig R), 22), (bS, B64 (bdig (two R S)), 24), (bA, B32 (bdig p), 22)] w wc := hj
      have hj : Kp [(b2, B32 fun _ => 0, 22), (b1, B32 (bdig R), 22), (bS, B64 (bdig (two R S)), 24), (bA, B32 (bdig p), 22)] w wc := ((((hj.none.cons (hj.at bA (B32 (bdig p)) 22 (.tail _ (.tail _ (.tail _ (.head _)))))).cons (hj.at bS (B64 (bdig (two R S))) 24 (.tail _ (.tail _ (.head _))))).cons (hj.at b1 (B32 (bdig R)) 22 (.tail _ (.head _)))).cons (hj.at b2 (B32 fun _ => 0) 22 (.head _)))
      have hj := Kp.row (A' := B32 (bdig S)) hj (by simp only [List.forall_mem_cons, List.not_mem_nil, false_implies, implies_true, and_true]; exact ⟨ne_b1_b2.out, ne_bS_b2.out, ne_bA_b2.out⟩) le_b2.out
      exact hK _ _ (.inr rfl) ((((hj.none.cons (hj.at bA (B32 (bdig p)) 22 (.tail _ (.tail _ (.tail _ (.head _)))))).cons (hj.at bS (B64 (bdig (two R S))) 24 (.tail _ (.tail _ (.head _))))).cons (hj.at b1 (B32 (bdig R)) 22 (.tail _ (.head _)))).cons (hj.at b2 (B32 (bdig S)) 22 (.head _)))
    · cases ho
  intro L V5 hL hKq
  rw [hL 2 (by decide)] at hKq
  have hK : Kp [(b2, B32 (bdig S), 22), (b1, B32 (bdig R), 22), (bS, B64 (bdig (two R S)), 24), (bA, B32 (bdig p), 22)] w V5 := hKq
  clear hKq hL
  simp only [putAll, valPv3, Act.put, List.setIfInBounds_toArray, List.set_cons_succ, List.set_cons_zero]
  go_wp2_with (refine wpList_load_own (by rfl) 22 (.tmp 8) (by rfl) b2 (by rfl) (B32 (bdig S)) _ (hK.at b2 (B32 (bdig S)) 22 (.head _)) Tryd.underlying22 (by rfl) (B32_info _) ?_)
  refine (hbl.out _).mono ?_
  rintro e V6 ⟨rfl, bw⟩
  have hK := hK.below bw
  clear bw
  cases u0
  · go_wp2_with fail
    go_ret
    exact ⟨by first | rfl | (rw [h0.out (by simp)]; rfl), hK.2⟩
  go_upto_region 6 with fail
  go_wp2_with (refine wpList_load_own (by rfl) 22 (.tmp 7) (by rfl) b1 (by rfl) (B32 (bdig R)) _ (hK.at b1 (B32 (bdig R)) 22 (.tail _ (.head _))) Tryd.underlying22 (by rfl) (B32_info _) ?_)
  refine (hD.out _).mono ?_
  rintro e V7 ⟨rfl, bw⟩
  have hK := hK.below bw
  clear bw
  go_upto_region 7 with (refine wpList_store_new (by rfl) 47 (.tmp 9) (.tmp 25) (by rfl) _ (PA rq) (by rfl) (by rfl) (PA_info _) (PA_sizes _ _) (PA_one _) (by rfl) ?_)
  have lt_b2 := (hK.at b2 (B32 (bdig S)) 22 (.head _)).lt
  have lt_b1 := (hK.at b1 (B32 (bdig R)) 22 (.tail _ (.head _))).lt
  have lt_bS := (hK.at bS (B64 (bdig (two R S))) 24 (.tail _ (.tail _ (.head _)))).lt
  have lt_bA := (hK.at bA (B32 (bdig p)) 22 (.tail _ (.tail _ (.tail _ (.head _))))).lt
  have le_b8 := show Hid _ from hK.2.size
  have hK := hK.alloc (PA rq) 47
  generalize V7.alloc (.cells (PA rq) 47) = V9 at *
  obtain ⟨b8, Hb8⟩ : ∃ b, Hid (V7.heap.size = b) := ⟨_, rfl⟩
  have ne_b2_b8 : Hid (b2 ≠ b8) := by show _ ≠ _; rw [← Hb8.out]; exact Nat.ne_of_lt lt_b2
  have ne_b1_b8 : Hid (b1 ≠ b8) := by show _ ≠ _; rw [← Hb8.out]; exact Nat.ne_of_lt lt_b1
  have ne_bS_b8 : Hid (bS ≠ b8) := by show _ ≠ _; rw [← Hb8.out]; exact Nat.ne_of_lt lt_bS
  have ne_bA_b8 : Hid (bA ≠ b8) := by show _ ≠ _; rw [← Hb8.out]; exact Nat.ne_of_lt lt_bA
  have le_b8 : Hid (w.heap.size ≤ b8) := by show _ ≤ _; rw [← Hb8.out]; exact le_b8.out
  rw [Hb8.out] at hK ⊢
  clear lt_b2 lt_b1 lt_bS lt_bA
  cases u1
  · go_wp2_with fail
    go_ret
    exact ⟨by first | rfl | (rw [h1.out (by simp)]; rfl), hK.2⟩
  go_upto_region 9 with fail
  refine wp_region_told 50 (by kernel_rfl) (by kernel_rfl) (by rfl) (factPv9 p R k f u2 ta tc m) (fun L vs => MkN 1 [(b8, PA rq, 47), (b2, B32 (bdig S), 22), (b1, B32 (bdig R), 22), (bS, B64 (bdig (two R S)), 24), (bA, B32 (bdig p), 22)] w (fun _ => B32 fun _ => 0) (fun _ => B32 f) (fun _ => 22) (fun i => L (9 + i)) (fun i => L (10 + i)) (fun i => vs (9 + i))) (fun _ => MkN.drew hK (fun _ _ => rfl)) ?_ ?_
  · intro L vs ac wc i o hF hLi ho hd K hK
    rcases i with _ | _ | _ | _ | _ | _ | _ | _ | _ | _ | _ | _ | i
    · have ho' := ho
      obtain rfl := Option.some.inj ho
      have f7 : ac.tmps.getD 7 undef = .pointer (some ⟨b1, 0, none⟩) := slott hF 0 hLi 7 (by kernel_rfl)
      refine step_do ho' (wanted_free rfl) ?_
      exact wp_load_own 22 (.tmp 7) rfl b1 f7 (B32 (bdig R)) _ 22 (hF.j.1.at b1 (B32 (bdig R)) 22 (.tail _ (.tail _ (.head _)))) Tryd.underlying22 rfl (B32_info _) (hK _ _ (.inr rfl) (hF.j.congr (fun i hi => if_off (by decide) hi) (fun i hi => if_off (by decide) hi) (fun i hi => if_off (by decide) hi)))
    · have ho' := ho
      obtain rfl := Option.some.inj ho
      have f3 : ac.tmps.getD 3 undef = .pointer (some ⟨bA, 0, none⟩) := slott hF 1 hLi 3 (by kernel_rfl)
      refine step_do ho' (wanted_free rfl) ?_
      exact wp_load_own 22 (.tmp 3) rfl bA f3 (B32 (bdig p)) _ 22 (hF.j.1.at bA (B32 (bdig p)) 22 (.tail _ (.tail _ (.tail _ (.tail _ (.head _)))))) Tryd.underlying22 rfl (B32_info _) (hK _ _ (.inr rfl) (hF.j.congr (fun i hi => if_off (by decide) hi) (fun i hi => if_off (by decide) hi) (fun i hi => if_off (by decide) hi)))
    · have ho' := ho
      obtain rfl := Option.some.inj ho
      have f1 : ac.tmps.getD 1 undef = .slice ta m.length tc := slott hF 2 hLi 1 (by kernel_rfl)
      refine step_do ho' (wanted_free rfl) ?_
      unfold Oper.wp
      go_simp
      exact hK _ _ (.inr rfl) (hF.j.congr (fun i hi => if_off (by decide) hi) (fun i hi => if_off (by decide) hi) (fun i hi => if_off (by decide) hi))
    · have ho' := ho
      obtain rfl := Option.some.inj ho
      have f30 : ac.tmps.getD 30 undef = .agg (B32 (bdig R)) := (factt hF hd 0 rfl rfl (by kernel_rfl)).1.trans (factt hF hd 0 rfl rfl (by kernel_rfl)).2
      have f31 : ac.tmps.getD 31 undef = .agg (B32 (bdig p)) := (factt hF hd 1 rfl rfl (by kernel_rfl)).1.trans (factt hF hd 1 rfl rfl (by kernel_rfl)).2
      have f32 : ac.tmps.getD 32 undef = .slice ta m.length tc := (factt hF hd 2 rfl rfl (by kernel_rfl)).1.trans (factt hF hd 2 rfl rfl (by kernel_rfl)).2
      refine step_do ho' (wanted_free rfl) ?_
      unfold Oper.wp
      go_simp
      refine (challenge_at Hk hl _ (hm.below hF.j.1.2)).mono ?_
      rintro e w' ⟨rfl, hB⟩
      exact hK _ _ (.inr rfl) (((hF.j.congr (fun i hi => if_off (by decide) hi) (fun i hi => if_off (by decide) hi) (fun i hi => if_off (by decide) hi))).below hB)
    · have ho' := ho
      obtain rfl := Option.some.inj ho
      have f3 : ac.tmps.getD 3 undef = .pointer (some ⟨bA, 0, none⟩) := slott hF 4 hLi 3 (by kernel_rfl)
      refine step_do ho' (wanted_free rfl) ?_
      exact wp_load_own 22 (.tmp 3) rfl bA f3 (B32 (bdig p)) _ 22 (hF.j.1.at bA (B32 (bdig p)) 22 (.tail _ (.tail _ (.tail _ (.tail _ (.head _)))))) Tryd.underlying22 rfl (B32_info _) (hK _ _ (.inr rfl) (hF.j.congr (fun i hi => if_off (by decide) hi) (fun i hi => if_off (by decide) hi) (fun i hi => if_off (by decide) hi)))
    · have ho' := ho
      obtain rfl := Option.some.inj ho
      have f33 : ac.tmps.getD 33 undef = .agg (B32 (bdig k)) := (factt hF hd 3 rfl rfl (by kernel_rfl)).1.trans (factt hF hd 3 rfl rfl (by kernel_rfl)).2
      have f34 : ac.tmps.getD 34 undef = .agg (B32 (bdig p)) := (factt hF hd 4 rfl rfl (by kernel_rfl)).1.trans (factt hF hd 4 rfl rfl (by kernel_rfl)).2
      refine step_do ho' (wanted_free rfl) ?_
      unfold Oper.wp
      go_simp
      refine (hM.out _).mono ?_
      rintro e w' ⟨rfl, hB⟩
      exact hK _ _ (.inr rfl) (((hF.j.congr (fun i hi => if_off (by decide) hi) (fun i hi => if_off (by decide) hi) (fun i hi => if_off (by decide) hi))).below hB)
    · have ho' := ho
      obtain rfl := Option.some.inj ho
      have f35 : ac.tmps.getD 35 undef = .tuple #[.agg (B32 f), .bool u2] := (factt hF hd 5 rfl rfl (by kernel_rfl)).1.trans (factt hF hd 5 rfl rfl (by kernel_rfl)).2
      refine step_do ho' (wanted_free rfl) ?_
      unfold Oper.wp
      go_simp
      exact hK _ _ (.inr rfl) (hF.j.congr (fun i hi => if_off (by decide) hi) (fun i hi => if_off (by decide) hi) (fun i hi => if_off (by decide) hi))
    · have ho' := ho
      obtain rfl := Option.some.inj ho
      have f29 : ac.tmps.getD 29 undef = .tuple #[.agg (B32 f), .bool u2] := (factt hF hd 6 rfl rfl (by kernel_rfl)).1.trans (factt hF hd 6 rfl rfl (by kernel_rfl)).2
      refine step_do ho' (wanted_free rfl) ?_
      unfold Oper.wp
      go_simp
      exact hK _ _ (.inr rfl) (hF.j.congr (fun i hi => if_off (by decide) hi) (fun i hi => if_off (by decide) hi) (fun i hi => if_off (by decide) hi))
    · have ho' := ho
      obtain rfl := Option.some.inj ho
      have f29 : ac.tmps.getD 29 undef = .tuple #[.agg (B32 f), .bool u2] := (factt hF hd 6 rfl rfl (by kernel_rfl)).1.trans (factt hF hd 6 rfl rfl (by kernel_rfl)).2
      refine step_do ho' (wanted_free rfl) ?_
      unfold Oper.wp
      go_simp
      exact hK _ _ (.inr rfl) (hF.j.congr (fun i hi => if_off (by decide) hi) (fun i hi => if_off (by decide) hi) (fun i hi => if_off (by decide) hi))
    · have ho' := ho
      obtain rfl := Option.some.inj ho
      refine step_do ho' (wanted_free rfl) ?_
      have hs := notyett hF 9 hLi 10 rfl (by kernel_rfl)
      unfold Oper.wp
      go_simp
      exact hK _ _ (.inr ⟨_, rfl⟩) (hF.j.alloc 0 (fun i _ hne => if_oth (k := 0) rfl hne) (fun i hi => if_off (by decide) hi) (fun i _ hne => if_oth (k := 0) rfl hne) rfl hs)
    · have ho' := ho
      obtain rfl := Option.some.inj ho
      have f36 : ac.tmps.getD 36 undef = .agg (B32 f) := (factt hF hd 7 rfl rfl (by kernel_rfl)).1.trans (factt hF hd 7 rfl rfl (by kernel_rfl)).2
      refine step_do ho' (wanted_free rfl) ?_
      obtain ⟨fg, gq, hg⟩ := factt hF hd 9 rfl rfl (by kernel_rfl)
      have hm_ := dep hd 9 (by kernel_rfl)
      have hj := hF.j
      rw [hg] at fg
      have hj2 := hj.at (k := 0) (by decide) hm_ hg hLi
      refine wp_store_own 22 (.tmp 11) (.tmp 36) rfl gq (B32 f) fg f36 hj2.2.2 (B32_sizes _ _) (B32_info _) (B32_one _) rfl ?_
      exact hK undef _ (.inl rfl) (hj.storeA (k := 0) (A := B32 f) rfl (by decide) hm_ hg hLi (B32_sizes _ _) (fun i hi => if_off (by decide) hi) (fun i _ hne => if_oth (k := 0) rfl hne) (fun i hi => if_off (by decide) hi) rfl)
    · have ho' := ho
      obtain rfl := Option.some.inj ho
      have f37 : ac.tmps.getD 37 undef = .bool u2 := (factt hF hd 8 rfl rfl (by kernel_rfl)).1.trans (factt hF hd 8 rfl rfl (by kernel_rfl)).2
      refine step_do ho' (wanted_free rfl) ?_
      unfold Oper.wp
      go_simp
      exact hK _ _ (.inr rfl) (hF.j.congr (fun i hi => if_off (by decide) hi) (fun i hi => if_off (by decide) hi) (fun i hi => if_off (by decide) hi))
    · cases ho
  intro L vs V10 hL hJ hf
  obtain ⟨g11, hgg11⟩ := hf 9 _ _ rfl rfl
  obtain ⟨le0, apg11, owng11⟩ := hJ.gotA (k := 0) (A := B32 f) rfl (by decide) (hL 9 (by decide)) hgg11 (hL 10 (by decide))
  have le_g11 := show Hid _ from le0
  clear le0
  have ne_b8_g11 : Hid (b8 ≠ g11) := apg11 (b8, PA rq, 47) (.head _)
  have ne_b2_g11 : Hid (b2 ≠ g11) := apg11 (b2, B32 (bdig S), 22) (.tail _ (.head _))
  have ne_b1_g11 : Hid (b1 ≠ g11) := apg11 (b1, B32 (bdig R), 22) (.tail _ (.tail _ (.head _)))
  have ne_bS_g11 : Hid (bS ≠ g11) := apg11 (bS, B64 (bdig (two R S)), 24) (.tail _ (.tail _ (.tail _ (.head _))))
  have ne_bA_g11 : Hid (bA ≠ g11) := apg11 (bA, B32 (bdig p), 22) (.tail _ (.tail _ (.tail _ (.tail _ (.head _)))))
  have hK : Kp [(g11, B32 f, 22), (b8, PA rq, 47), (b2, B32 (bdig S), 22), (b1, B32 (bdig R), 22), (bS, B64 (bdig (two R S)), 24), (bA, B32 (bdig p), 22)] w V10 := (hJ.1.cons owng11)
  have e0 : vs 0 = _ := hf 0 _ _ rfl rfl
  have e1 : vs 1 = _ := hf 1 _ _ rfl rfl
  have e2 : vs 2 = _ := hf 2 _ _ rfl rfl
  have e3 : vs 3 = _ := hf 3 _ _ rfl rfl
  have e4 : vs 4 = _ := hf 4 _ _ rfl rfl
  have e5 : vs 5 = _ := hf 5 _ _ rfl rfl
  have e6 : vs 6 = _ := hf 6 _ _ rfl rfl
  have e7 : vs 7 = _ := hf 7 _ _ rfl rfl
  have e8 : vs 8 = _ := hf 8 _ _ rfl rfl
  have e11 : vs 11 = _ := hf 11 _ _ rfl rfl
  simp only [putAll, Nat.zero_add, Nat.reduceAdd, e0, e1, e2, e3, e4, e5, e6, e7, e8, e11, hgg11, Act.put, List.setIfInBounds_toArray, List.set_cons_succ, List.set_cons_zero]
  clear hJ hf hL e0 e1 e2 e3 e4 e5 e6 e7 e8 e11 hgg11 apg11 owng11
  cases u2
  · go_wp2_with fail
    go_ret
    exact ⟨by first | rfl | (rw [h2.out (by simp)]; rfl), hK.2⟩
  go_upto_region 12 with fail
  go_wp2_with (first
    | refine wpList_load_own (by rfl) 22 (.tmp 7) (by rfl) b1 (by rfl) (B32 (bdig R)) _ (hK.at b1 (B32 (bdig R)) 22 (.tail _ (.tail _ (.tail _ (.head _))))) Tryd.underlying22 (by rfl) (B32_info _) ?_
    | refine wpList_load_own (by rfl) 22 (.tmp 11) (by rfl) g11 (by rfl) (B32 f) _ (hK.at g11 (B32 f) 22 (.head _)) Tryd.underlying22 (by rfl) (B32_info _) ?_)
  refine (hA.out (by simp) (by simp) _).mono ?_
  rintro e V12 ⟨rfl, bw⟩
  have hK := hK.below bw
  clear bw
  go_upto_region 13 with (refine wpList_store_own (op := { dst := none, op := _, type := _, pos := _, after := _, guard := _ }) rfl 22 (.tmp 11) (.tmp 44) rfl g11 0 (B32 g) (by rfl) (by rfl) (hK.at g11 (B32 f) 22 (.head _)) (B32_le _ _) (B32_info _) (B32_one _) (by rfl) ?_)
  have hK : Kp [(g11, B32 f, 22), (b8, PA rq, 47), (b2, B32 (bdig S), 22), (b1, B32 (bdig R), 22), (bS, B64 (bdig (two R S)), 24), (bA, B32 (bdig p), 22)] w V12 := ((((((hK.none.cons (hK.at bA (B32 (bdig p)) 22 (.tail _ (.tail _ (.tail _ (.tail _ (.tail _ (.head _)))))))).cons (hK.at bS (B64 (bdig (two R S))) 24 (.tail _ (.tail _ (.tail _ (.tail _ (.head _))))))).cons (hK.at b1 (B32 (bdig R)) 22 (.tail _ (.tail _ (.tail _ (.head _)))))).cons (hK.at b2 (B32 (bdig S)) 22 (.tail _ (.tail _ (.head _))))).cons (hK.at b8 (PA rq) 47 (.tail _ (.head _)))).cons (hK.at g11 (B32 f) 22 (.head _)))
  have hK := Kp.set (A' := B32 g) hK (by simp only [List.forall_mem_cons, List.not_mem_nil, false_implies, implies_true, and_true]; exact ⟨ne_b8_g11.out, ne_b2_g11.out, ne_b1_g11.out, ne_bS_g11.out, ne_bA_g11.out⟩) le_g11.out (B32_sizes _ _)
  generalize V12.setCells g11 0 (B32 g).toList = V13 at *
  refine wp_region_vals 50 (by kernel_rfl) (by kernel_rfl) (by rfl) (valPv13 S t g v0) (fun _ => Kp [(g11, B32 g, 22), (b8, PA rq, 47), (b2, B32 (bdig S), 22), (b1, B32 (bdig R), 22), (bS, B64 (bdig (two R S)), 24), (bA, B32 (bdig p), 22)] w) hK.drew ?_ ?_
  · intro L ac wc i o hF hLi ho hd K hK
    rcases i with _ | _ | _ | _ | _ | i
    · have ho' := ho
      obtain rfl := Option.some.inj ho
      have f11 : ac.tmps.getD 11 undef = .pointer (some ⟨g11, 0, none⟩) := slotv hF 0 hLi 11 (by kernel_rfl)
      refine step_do ho' (wanted_free rfl) ?_
      exact wp_load_own 22 (.tmp 11) rfl g11 f11 (B32 g) _ 22 (hF.j.at g11 (B32 g) 22 (.head _)) Tryd.underlying22 rfl (B32_info _) (hK _ _ (.inr rfl) hF.j)
    · have ho' := ho
      obtain rfl := Option.some.inj ho
      have f8 : ac.tmps.getD 8 undef = .pointer (some ⟨b2, 0, none⟩) := slotv hF 1 hLi 8 (by kernel_rfl)
      refine step_do ho' (wanted_free rfl) ?_
      exact wp_load_own 22 (.tmp 8) rfl b2 f8 (B32 (bdig S)) _ 22 (hF.j.at b2 (B32 (bdig S)) 22 (.tail _ (.tail _ (.head _)))) Tryd.underlying22 rfl (B32_info _) (hK _ _ (.inr rfl) hF.j)
    · have ho' := ho
      obtain rfl := Option.some.inj ho
      have f47 : ac.tmps.getD 47 undef = .agg (B32 (bdig S)) := valv hF hd 1 rfl rfl (by kernel_rfl)
      refine step_do ho' (wanted_free rfl) ?_
      unfold Oper.wp
      go_simp
      refine (hbs.out _).mono ?_
      rintro e w' ⟨rfl, hB⟩
      exact hK _ _ (.inr rfl) ((hF.j).below hB)
    · have ho' := ho
      obtain rfl := Option.some.inj ho
      have f46 : ac.tmps.getD 46 undef = .agg (B32 g) := valv hF hd 0 rfl rfl (by kernel_rfl)
      have f48 : ac.tmps.getD 48 undef = .agg (B32 (bdig t)) := valv hF hd 2 rfl rfl (by kernel_rfl)
      refine step_do ho' (wanted_free rfl) ?_
      unfold Oper.wp
      go_simp
      exact hK _ _ (.inr rfl) hF.j
    · have ho' := ho
      obtain rfl := Option.some.inj ho
      have f49 : ac.tmps.getD 49 undef = .bool v0 := valv hF hd 3 rfl rfl (by kernel_rfl)
      refine step_do ho' (wanted_free rfl) ?_
      unfold Oper.wp
      go_simp
      exact hK _ _ (.inr rfl) hF.j
    · cases ho
  intro L V14 hL hKq
  have hK : Kp [(g11, B32 g, 22), (b8, PA rq, 47), (b2, B32 (bdig S), 22), (b1, B32 (bdig R), 22), (bS, B64 (bdig (two R S)), 24), (bA, B32 (bdig p), 22)] w V14 := hKq
  clear hKq hL
  simp only [putAll, valPv13, Act.put, List.setIfInBounds_toArray, List.set_cons_succ, List.set_cons_zero]
  go_wp2
  go_ret
  exact ⟨by first | rfl | (rw [h3.out (by simp) (by simp) (by simp)]; rfl), hK.2⟩
end Go.Proofs.YtfkcphbbabaefaaDoor
