/- The law of the equation, over contracts. -/
import Derived.Test.YtfkcphbbabaefaaDoorSM1
import Derived.Test.YtfkcphbbabaefaaDoorSW1
import Derived.Test.YtfkcphbbabaefaaDoorST1
namespace Go.Proofs.YtfkcphbbabaefaaDoor
open Go Go.RowKit
def factEq3 (n y R S : Nat) (ta : Option Addr) (tc : Nat) (m : List Int) : Nat → Value → Prop
  | 0, vq => vq = .agg (B32 (bdig n))
  | 1, vq => vq = .agg (B32 (bdig y))
  | 2, vq => vq = .agg (B32 (bdig n))
  | 3, vq => vq = .slice ta m.length tc
  | 4, vq => vq = .agg (B64 (bdig (two R S)))
  | 5, vq => ∃ g, vq = .pointer (some ⟨g, 0, none⟩)
  | 6, vq => ∃ g, vq = .pointer (some ⟨g, 0, none⟩)
  | _, _ => True
def factEq9 (z k g2 b4 : Nat) (ta : Option Addr) (tc : Nat) (m : List Int) : Nat → Value → Prop
  | 0, vq => vq = .slice (some ⟨b4, 0, none⟩) 32 32
  | 1, vq => vq = .slice (some ⟨g2, 0, none⟩) 32 32
  | 2, vq => vq = .slice ta m.length tc
  | 4, vq => vq = .agg (B64 (bdig z))
  | 5, vq => vq = .agg (B32 (bdig k))
  | 6, vq => ∃ g, vq = .pointer (some ⟨g, 0, none⟩)
  | 3, vq => ∃ aq, vq = .slice aq 3 3
  | _, _ => True
def valEq12 (n y R S t : Nat) (ta : Option Addr) (tc : Nat) (m : List Int) : Nat → Value
  | 0 => .int .i64 (0)
  | 1 => .bool true
  | 2 => .bool true
  | 3 => .int .i64 (0)
  | 4 => .bool true
  | 5 => .bool true
  | 6 => .bool true
  | 7 => .agg (B32 (bdig S))
  | 8 => .bool true
  | 9 => .bool true
  | 10 => .bool true
  | 11 => .agg (B32 (bdig R))
  | 12 => .bool true
  | 13 => .bool true
  | 14 => .bool true
  | 15 => .agg (B32 (bdig y))
  | 16 => .bool true
  | 17 => .bool true
  | 18 => .bool true
  | 19 => .agg (B32 (bdig S))
  | 20 => .agg (B32 (bdig t))
  | 21 => .agg (B32 (bdig t))
  | 22 => .bool true
  | 23 => .bool true
  | 24 => .bool true
  | 25 => .agg (B32 (bdig n))
  | 26 => .slice ta m.length tc
  | 27 => .agg (B64 (bdig (two R S)))
  | 28 => .agg (B64 (bdig (two R S)))
  | 29 => .bool true
  | 30 => .bool true
  | 31 => .bool true
  | 32 => .bool true
  | 33 => .bool true
  | 34 => .bool true
  | _ => undef
set_option maxRecDepth 100000 in
set_option maxHeartbeats 2000000 in
theorem equation_long {n : Nat} {ta : Option Addr} {tc : Nat} {m : List Int} (hn : 200 < m.length) (w : World) : Calls Tryd.prog 5 #[.agg (B32 (bdig n)), .slice ta m.length tc] w fun x w' => x = .returned (.bool true) ∧ Below w.heap.size w w' := by
  have hki : (200 : Int) < (m.length : Int) := by omega
  go_enter Tryd.func5, Tryd.ntmps5
  go_wp2
  go_ret
  exact ⟨rfl, (Below.refl _ _).alloc (Nat.le_refl _) _⟩
set_option maxRecDepth 100000 in
set_option maxHeartbeats 2000000 in
theorem equation_short {T : World → Prop} (F : Low T) {n : Nat} {ta : Option Addr} {tc : Nat} {m : List Int} (hn : m.length ≤ 200) (w : World) (hT : T w) (hm : Txt w ta tc m) : Calls Tryd.prog 5 #[.agg (B32 (bdig n)), .slice ta m.length tc] w fun x w' => x = .returned (.bool true) ∧ Below w.heap.size w w' := by
  have hz := (zero_of_info zeroB32).1
  have hz64 := (zero_of_info zeroB64).1
  have hki : ¬ (200 : Int) < (m.length : Int) := by omega
  have hki' : decide ((200 : Int) < (m.length : Int)) = false := decide_eq_false hki
  have hl1 : Hid (m.length ≤ 1000) := by show _ ≤ _; omega
  obtain ⟨y, Hy⟩ : ∃ y, Hid (pubOf n = y) := ⟨_, rfl⟩
  obtain ⟨R, HR⟩ : ∃ R, Hid (rOf n m = R) := ⟨_, rfl⟩
  obtain ⟨S, HS⟩ : ∃ S, Hid (sOf n m = S) := ⟨_, rfl⟩
  obtain ⟨k, Hk⟩ : ∃ k, Hid (bindOf R y m = k) := ⟨_, rfl⟩
  obtain ⟨P, HP⟩ : ∃ P : Pt E5, Hid (enc P = y ∧ (Pt.times (onceOf n m) BP).add (Pt.times k P) = Pt.times S BP) := ⟨Pt.times (numOf n) BP, Hy.out, by rw [← Hk.out, ← Hy.out, ← HR.out, ← HS.out]; exact sign_eqn n m⟩
  obtain ⟨x, Hx⟩ : ∃ x, Hid (enc (Pt.times k P) = x) := ⟨_, rfl⟩
  obtain ⟨t, Ht⟩ : ∃ t, Hid (enc (Pt.times S BP) = t) := ⟨_, rfl⟩
  have lR : Hid (R < R256) := by show _ < _; rw [← HR.out]; exact rOf_lt n m
  have ly : Hid (y < R256) := by show _ < _; rw [← Hy.out]; exact pubOf_lt n
  have lS : Hid (S < R256) := by show _ < _; rw [← HS.out]; exact sOf_lt2 n m
  have lk : Hid (k < R256) := by show _ < _; rw [← Hk.out]; exact lt_of_modL
  have hSL : Hid (decide (S < LL) = true) := by show _ = _; rw [← HS.out]; exact decide_eq_true (sOf_lt n m)
  have HR2 : Hid (enc (Pt.times (onceOf n m) BP) = R) := HR.out
  have Hs : Hid (enc ((Pt.times (onceOf n m) BP).add (Pt.times k P)) = t) := by show _ = _; rw [HP.out.2]; exact Ht.out
  obtain ⟨z, Hz⟩ : ∃ z, Hid (dn (by32 R ++ (by32 y ++ m)) = z) := ⟨_, rfl⟩
  have hzl : Hid (z < R512) := by show _ < _; rw [← Hz.out]; exact dn_lt _
  have hzk : Hid (z % LL = k) := by show _ = _; rw [← Hz.out]; exact Hk.out
  have hfl : Hid ([by32 R, by32 y, m].flatten = by32 R ++ (by32 y ++ m)) := by show _ = _; simp
  have hln : Hid ((by32 R ++ (by32 y ++ m)).length ≤ 16000000) := by show _ ≤ _; rw [List.length_append, List.length_append, by32_length, by32_length]; omega
  have hpub : Hid (∀ w, T w → Calls Tryd.prog 11 #[.agg (B32 (bdig n))] w fun x w' => x = .returned (.agg (B32 (bdig y))) ∧ Below w.heap.size w w') := fun w hT => by rw [← Hy.out]; exact public_is F n w hT
  have hsig : Hid (∀ w, T w → Txt w ta tc m → Calls Tryd.prog 12 #[.agg (B32 (bdig n)), .slice ta m.length tc] w fun x w' => x = .returned (.agg (B64 (bdig (two R S)))) ∧ Below w.heap.size w w') := fun w hT hm => by rw [← HR.out, ← HS.out]; exact sign_is F n hl1.out w hT hm
  have same_t := B32_same t (by rw [← Ht.out]; exact enc_R7 _)
  have same_s := B64_same (two R S) (two_lt lR.out lS.out)
  go_enter Tryd.func5, Tryd.ntmps5
  go_upto_region 1 with fail
  have hK := (Kp.nil w).alloc (B32 (bdig n)) 22
  generalize w.alloc (.cells (B32 (bdig n)) 22) = W at *
  obtain ⟨bA, HbA⟩ : ∃ b, Hid (w.heap.size = b) := ⟨_, rfl⟩
  have le_bA : Hid (w.heap.size ≤ bA) := by show _ ≤ _; have := HbA.out; omega
  rw [HbA.out] at hK ⊢
  go_upto_region 3 with fail
  refine wp_region_told 90 (by kernel_rfl) (by kernel_rfl) (by rfl) (factEq3 n y R S ta tc m) (fun L vs => MkN 2 [(bA, B32 (bdig n), 22)] w (pick2 (B32 fun _ => 0) (B64 fun _ => 0)) (pick2 (B32 (bdig y)) (B64 (bdig (two R S)))) (pick2 (22) (24)) (fun i => L (5 + i)) (fun i => L (7 + i)) (fun i => vs (5 + i))) (fun _ => MkN.drew hK (fun _ _ => rfl)) ?_ ?_
  · intro L vs ac wc i o hF hLi ho hd K hK
    rcases i with _ | _ | _ | _ | _ | _ | _ | _ | _ | i
    · have ho' := ho
      obtain rfl := Option.some.inj ho
      have f2 : ac.tmps.getD 2 undef = .pointer (some ⟨bA, 0, none⟩) := slott hF 0 hLi 2 (by kernel_rfl)
      refine step_do ho' (wanted_free rfl) ?_
      exact wp_load_own 22 (.tmp 2) rfl bA f2 (B32 (bdig n)) _ 22 (hF.j.1.at bA (B32 (bdig n)) 22 (.head _)) Tryd.underlying22 rfl (B32_info _) (hK _ _ (.inr rfl) (hF.j.congr (fun i hi => if_off (by decide) hi) (fun i hi => if_off (by decide) hi) (fun i hi => if_off (by decide) hi)))
    · have ho' := ho
      obtain rfl := Option.some.inj ho
      have f18 : ac.tmps.getD 18 undef = .agg (B32 (bdig n)) := (factt hF hd 0 rfl rfl (by kernel_rfl)).1.trans (factt hF hd 0 rfl rfl (by kernel_rfl)).2
      refine step_do ho' (wanted_free rfl) ?_
      unfold Oper.wp
      go_simp
      refine (hpub.out _ (F.keep _ _ hT hF.j.1.2)).mono ?_
      rintro e w' ⟨rfl, hB⟩
      exact hK _ _ (.inr rfl) (((hF.j.congr (fun i hi => if_off (by decide) hi) (fun i hi => if_off (by decide) hi) (fun i hi => if_off (by decide) hi))).below hB)
    · have ho' := ho
      obtain rfl := Option.some.inj ho
      have f2 : ac.tmps.getD 2 undef = .pointer (some ⟨bA, 0, none⟩) := slott hF 2 hLi 2 (by kernel_rfl)
      refine step_do ho' (wanted_free rfl) ?_
      exact wp_load_own 22 (.tmp 2) rfl bA f2 (B32 (bdig n)) _ 22 (hF.j.1.at bA (B32 (bdig n)) 22 (.head _)) Tryd.underlying22 rfl (B32_info _) (hK _ _ (.inr rfl) (hF.j.congr (fun i hi => if_off (by decide) hi) (fun i hi => if_off (by decide) hi) (fun i hi => if_off (by decide) hi)))
    · have ho' := ho
      obtain rfl := Option.some.inj ho
      have f1 : ac.tmps.getD 1 undef = .slice ta m.length tc := slott hF 3 hLi 1 (by kernel_rfl)
      refine step_do ho' (wanted_free rfl) ?_
      unfold Oper.wp
      go_simp
      exact hK _ _ (.inr rfl) (hF.j.congr (fun i hi => if_off (by decide) hi) (fun i hi => if_off (by decide) hi) (fun i hi => if_off (by decide) hi))
    · have ho' := ho
      obtain rfl := Option.some.inj ho
      have f20 : ac.tmps.getD 20 undef = .agg (B32 (bdig n)) := (factt hF hd 2 rfl rfl (by kernel_rfl)).1.trans (factt hF hd 2 rfl rfl (by kernel_rfl)).2
      have f21 : ac.tmps.getD 21 undef = .slice ta m.length tc := (factt hF hd 3 rfl rfl (by kernel_rfl)).1.trans (factt hF hd 3 rfl rfl (by kernel_rfl)).2
      refine step_do ho' (wanted_free rfl) ?_
      unfold Oper.wp
      go_simp
      refine (hsig.out _ (F.keep _ _ hT hF.j.1.2) (hm.below hF.j.1.2)).mono ?_
      rintro e w' ⟨rfl, hB⟩
      exact hK _ _ (.inr rfl) (((hF.j.congr (fun i hi => if_off (by decide) hi) (fun i hi => if_off (by decide) hi) (fun i hi => if_off (by decide) hi))).below hB)
    · have ho' := ho
      obtain rfl := Option.some.inj ho
      refine step_do ho' (wanted_free rfl) ?_
      have hs := notyett hF 5 hLi 7 rfl (by kernel_rfl)
      unfold Oper.wp
      go_simp
      exact hK _ _ (.inr ⟨_, rfl⟩) (hF.j.alloc 0 (fun i _ hne => if_oth (k := 0) rfl hne) (fun i hi => if_off (by decide) hi) (fun i _ hne => if_oth (k := 0) rfl hne) rfl hs)
    · have ho' := ho
      obtain rfl := Option.some.inj ho
      refine step_do ho' (wanted_free rfl) ?_
      have hs := notyett hF 6 hLi 8 rfl (by kernel_rfl)
      unfold Oper.wp
      go_simp
      exact hK _ _ (.inr ⟨_, rfl⟩) (hF.j.alloc 1 (fun i _ hne => if_oth (k := 1) rfl hne) (fun i hi => if_off (by decide) hi) (fun i _ hne => if_oth (k := 1) rfl hne) rfl hs)
    · have ho' := ho
      obtain rfl := Option.some.inj ho
      have f19 : ac.tmps.getD 19 undef = .agg (B32 (bdig y)) := (factt hF hd 1 rfl rfl (by kernel_rfl)).1.trans (factt hF hd 1 rfl rfl (by kernel_rfl)).2
      refine step_do ho' (wanted_free rfl) ?_
      obtain ⟨fg, gq, hg⟩ := factt hF hd 5 rfl rfl (by kernel_rfl)
      have hm_ := dep hd 5 (by kernel_rfl)
      have hj := hF.j
      rw [hg] at fg
      have hj2 := hj.at (k := 0) (by decide) hm_ hg hLi
      refine wp_store_own 22 (.tmp 5) (.tmp 19) rfl gq (B32 (bdig y)) fg f19 hj2.2.2 (B32_sizes _ _) (B32_info _) (B32_one _) rfl ?_
      exact hK undef _ (.inl rfl) (hj.storeA (k := 0) (A := B32 (bdig y)) rfl (by decide) hm_ hg hLi (B32_sizes _ _) (fun i hi => if_off (by decide) hi) (fun i _ hne => if_oth (k := 0) rfl hne) (fun i hi => if_off (by decide) hi) rfl)
    · have ho' := ho
      obtain rfl := Option.some.inj ho
      have f22 : ac.tmps.getD 22 undef = .agg (B64 (bdig (two R S))) := (factt hF hd 4 rfl rfl (by kernel_rfl)).1.trans (factt hF hd 4 rfl rfl (by kernel_rfl)).2
      refine step_do ho' (wanted_free rfl) ?_
      obtain ⟨fg, gq, hg⟩ := factt hF hd 6 rfl rfl (by kernel_rfl)
      have hm_ := dep hd 6 (by kernel_rfl)
      have hj := hF.j
      rw [hg] at fg
      have hj2 := hj.at (k := 1) (by decide) hm_ hg hLi
      refine wp_store_own 24 (.tmp 6) (.tmp 22) rfl gq (B64 (bdig (two R S))) fg f22 hj2.2.2 (B64_sizes _ _) (B64_info _) (B64_one _) rfl ?_
      exact hK undef _ (.inl rfl) (hj.storeA (k := 1) (A := B64 (bdig (two R S))) rfl (by decide) hm_ hg hLi (B64_sizes _ _) (fun i hi => if_off (by decide) hi) (fun i _ hne => if_oth (k := 1) rfl hne) (fun i hi => if_off (by decide) hi) rfl)
    · cases ho
  intro L vs V1 hL hJ hf
  obtain ⟨g2, hgg2⟩ := hf 5 _ _ rfl rfl
  obtain ⟨le0, apg2, owng2⟩ := hJ.gotA (k := 0) (A := B32 (bdig y)) rfl (by decide) (hL 5 (by decide)) hgg2 (hL 7 (by decide))
  have le_g2 := show Hid _ from le0
  clear le0
  obtain ⟨g3, hgg3⟩ := hf 6 _ _ rfl rfl
  obtain ⟨le0, apg3, owng3⟩ := hJ.gotA (k := 1) (A := B64 (bdig (two R S))) rfl (by decide) (hL 6 (by decide)) hgg3 (hL 8 (by decide))
  have le_g3 := show Hid _ from le0
  clear le0
  have ne_g2_g3 : Hid (g2 ≠ g3) := hJ.apart (i := 0) (j := 1) (by decide) (by decide) (by decide) (hL 5 (by decide)) (hL 6 (by decide)) hgg2 hgg3
  have ne_bA_g2 : Hid (bA ≠ g2) := apg2 (bA, B32 (bdig n), 22) (.head _)
  have ne_bA_g3 : Hid (bA ≠ g3) := apg3 (bA, B32 (bdig n), 22) (.head _)
  have hK : Kp [(g3, B64 (bdig (two R S)), 24), (g2, B32 (bdig y), 22), (bA, B32 (bdig n), 22)] w V1 := ((hJ.1.cons owng2).cons owng3)
  have e0 : vs 0 = _ := hf 0 _ _ rfl rfl
  have e1 : vs 1 = _ := hf 1 _ _ rfl rfl
  have e2 : vs 2 = _ := hf 2 _ _ rfl rfl
  have e3 : vs 3 = _ := hf 3 _ _ rfl rfl
  have e4 : vs 4 = _ := hf 4 _ _ rfl rfl
  simp only [putAll, Nat.zero_add, Nat.reduceAdd, e0, e1, e2, e3, e4, hgg2, hgg3, Act.put, List.setIfInBounds_toArray, List.set_cons_succ, List.set_cons_zero]
  clear hJ hf hL e0 e1 e2 e3 e4 hgg2 hgg3 apg2 apg3 owng2 owng3
  go_upto_region 5 with fail
  have lt_g3 := (hK.at g3 (B64 (bdig (two R S))) 24 (.head _)).lt
  have lt_g2 := (hK.at g2 (B32 (bdig y)) 22 (.tail _ (.head _))).lt
  have lt_bA := (hK.at bA (B32 (bdig n)) 22 (.tail _ (.tail _ (.head _)))).lt
  have le_b4 := show Hid _ from hK.2.size
  have hK := (hK.alloc (B32 fun _ => 0) 22).alloc (B32 fun _ => 0) 22
  rw [World.size_alloc] at hK
  obtain ⟨b4, Hb4⟩ : ∃ b, Hid (V1.heap.size = b) := ⟨_, rfl⟩
  obtain ⟨b5, Hb5⟩ : ∃ b, Hid (b4 + 1 = b) := ⟨_, rfl⟩
  have le_b4 : Hid (w.heap.size ≤ b4) := by show _ ≤ _; rw [← Hb4.out]; exact le_b4.out
  have le_b5 : Hid (w.heap.size ≤ b5) := by show _ ≤ _; have := Hb5.out; have := le_b4.out; omega
  have ne_g3_b4 : Hid (g3 ≠ b4) := by show _ ≠ _; have := Hb4.out; omega
  have ne_g3_b5 : Hid (g3 ≠ b5) := by show _ ≠ _; have := Hb4.out; have := Hb5.out; omega
  have ne_g2_b4 : Hid (g2 ≠ b4) := by show _ ≠ _; have := Hb4.out; omega
  have ne_g2_b5 : Hid (g2 ≠ b5) := by show _ ≠ _; have := Hb4.out; have := Hb5.out; omega
  have ne_bA_b4 : Hid (bA ≠ b4) := by show _ ≠ _; have := Hb4.out; omega
  have ne_bA_b5 : Hid (bA ≠ b5) := by show _ ≠ _; have := Hb4.out; have := Hb5.out; omega
  have ne_b4_b5 : Hid (b4 ≠ b5) := by show _ ≠ _; have := Hb5.out; omega
  clear lt_g3 lt_g2 lt_bA
  rw [Hb4.out, Hb5.out] at hK
  rw [Hb4.out, Hb5.out]
  generalize (V1.alloc (.cells (B32 fun _ => 0) 22)).alloc (.cells (B32 fun _ => 0) 22) = V6 at *
  go_wp2_with fail
  go_loopw [9] (fun ii wr => ∃ (k : Nat) (f g : Nat → Nat), k ≤ 32 ∧ ii = .int .i64 (k : Int) ∧ (∀ j, j < k → f j = bdig R j) ∧ (∀ j, j < k → g j = bdig S j) ∧ Kp [(b5, B32 g, 22), (b4, B32 f, 22), (g3, B64 (bdig (two R S)), 24), (g2, B32 (bdig y), 22), (bA, B32 (bdig n), 22)] w wr) (fun ii _ => 32 - (intOf ii).toNat)
  case atStart => exact ⟨0, fun _ => 0, fun _ => 0, by omega, rfl, fun j hj => by omega, fun j hj => by omega, hK⟩
  case round =>
    clear hK
    obtain ⟨i, f, g, hi, rfl, hf, hg, hK⟩ := hrel
    replace hf := show Hid _ from hf
    replace hg := show Hid _ from hg
    have hi0 : (0 : Int) ≤ (i : Int) := by omega
    by_cases hlt : i < 32
    · have hii : (i : Int) < 32 := by omega
      obtain ⟨u, Hu⟩ : ∃ u, Hid (bdig R i = u) := ⟨_, rfl⟩
      obtain ⟨v, Hv⟩ : ∃ v, Hid (bdig S i = v) := ⟨_, rfl⟩
      have c1 : wr.cell? ⟨g3, i, none⟩ = some (.int .u8 (u : Int)) := by have := (hK.at g3 (B64 (bdig (two R S))) 24 (.tail _ (.tail _ (.head _)))).cell (B64_at (bdig (two R S)) i (by omega)); rw [two_byte_lo lR.out hlt, Hu.out] at this; exact this
      have c2 : wr.cell? ⟨g3, 32 + i, none⟩ = some (.int .u8 (v : Int)) := by have := (hK.at g3 (B64 (bdig (two R S))) 24 (.tail _ (.tail _ (.head _)))).cell (B64_at (bdig (two R S)) (32 + i) (by omega)); rw [two_byte_hi lR.out, Hv.out] at this; exact this
      have c3 := (hK.at b4 (B32 f) 22 (.tail _ (.head _))).cell (B32_at f i hlt)
      have d3 := (hK.at b4 (B32 f) 22 (.tail _ (.head _))).frozen i
      have c4 := (hK.at b5 (B32 g) 22 (.head _)).cell (B32_at g i hlt)
      have d4 := (hK.at b5 (B32 g) 22 (.head _)).frozen i
      have nq := ne_b4_b5.out
      have h32 : (32 : Int) + (i : Int) < 64 := by omega
      go_wp2_with fail
      go_region
      have hK : Kp [(b4, B32 f, 22), (b5, B32 g, 22), (g3, B64 (bdig (two R S)), 24), (g2, B32 (bdig y), 22), (bA, B32 (bdig n), 22)] w wr := (((((hK.none.cons (hK.at bA (B32 (bdig n)) 22 (.tail _ (.tail _ (.tail _ (.tail _ (.head _))))))).cons (hK.at g2 (B32 (bdig y)) 22 (.tail _ (.tail _ (.tail _ (.head _)))))).cons (hK.at g3 (B64 (bdig (two R S))) 24 (.tail _ (.tail _ (.head _))))).cons (hK.at b5 (B32 g) 22 (.head _))).cons (hK.at b4 (B32 f) 22 (.tail _ (.head _))))
      have hK := Kp.setCell (i := i) (v := .int .u8 (u : Int)) hK (by simp only [List.forall_mem_cons, List.not_mem_nil, false_implies, implies_true, and_true]; exact ⟨(Ne.symm ne_b4_b5.out), ne_g3_b4.out, ne_g2_b4.out, ne_bA_b4.out⟩) le_b4.out
      rw [B32_set f i u hlt] at hK
      have hK : Kp [(b5, B32 g, 22), (b4, B32 (upd f i u), 22), (g3, B64 (bdig (two R S)), 24), (g2, B32 (bdig y), 22), (bA, B32 (bdig n), 22)] w _ := (((((hK.none.cons (hK.at bA (B32 (bdig n)) 22 (.tail _ (.tail _ (.tail _ (.tail _ (.head _))))))).cons (hK.at g2 (B32 (bdig y)) 22 (.tail _ (.tail _ (.tail _ (.head _)))))).cons (hK.at g3 (B64 (bdig (two R S))) 24 (.tail _ (.tail _ (.head _))))).cons (hK.at b4 (B32 (upd f i u)) 22 (.head _))).cons (hK.at b5 (B32 g) 22 (.tail _ (.head _))))
      have hK := Kp.setCell (i := i) (v := .int .u8 (v : Int)) hK (by simp only [List.forall_mem_cons, List.not_mem_nil, false_implies, implies_true, and_true]; exact ⟨ne_b4_b5.out, ne_g3_b5.out, ne_g2_b5.out, ne_bA_b5.out⟩) le_b5.out
      rw [B32_set g i v hlt] at hK
      have hK := hK.drew
      clear c1 c2 c3 c4 d3 d4
      go_wp2_with fail
      go_roundw
      case rel =>
        refine ⟨i + 1, upd f i u, upd g i v, by omega, by go_num, fun j hj => ?_, fun j hj => ?_, hK⟩
        · by_cases e : j = i
          · rw [e, upd_same]; exact Hu.out.symm
          · rw [upd_other _ _ _ _ e]; exact hf.out j (by omega)
        · by_cases e : j = i
          · rw [e, upd_same]; exact Hv.out.symm
          · rw [upd_other _ _ _ _ e]; exact hg.out j (by omega)
      case measure => simp [intOf]; omega
    · have hii : ¬ (i : Int) < 32 := by omega
      have ef : B32 f = B32 (bdig R) := B32_ext fun j hj => hf.out j (by omega)
      have eg : B32 g = B32 (bdig S) := B32_ext fun j hj => hg.out j (by omega)
      rw [ef, eg] at hK
      clear ef eg hf hg
      go_upto_region 9 with fail
      refine wp_region_told 90 (by kernel_rfl) (by kernel_rfl) (by rfl) (factEq9 z k g2 b4 ta tc m) (fun L vs wq => MkN 1 [(b5, B32 (bdig S), 22), (b4, B32 (bdig R), 22), (g3, B64 (bdig (two R S)), 24), (g2, B32 (bdig y), 22), (bA, B32 (bdig n), 22)] w (fun _ => B32 fun _ => 0) (fun _ => B32 (bdig k)) (fun _ => 22) (fun i => L (6 + i)) (fun i => L (7 + i)) (fun i => vs (6 + i)) wq ∧ (L 3 = true → L 4 = false → ∃ aq, vs 3 = .slice aq 3 3 ∧ H.RowsV wq aq 3 3 [by32 R, by32 y, m])) (fun _ => ⟨MkN.drew hK (fun _ _ => rfl), (fun h => by cases h)⟩) ?_ ?_
      · intro L vs ac wc i o hF hLi ho hd K hK
        rcases i with _ | _ | _ | _ | _ | _ | _ | _ | i
        · have ho' := ho
          obtain rfl := Option.some.inj ho
          have f7 : ac.tmps.getD 7 undef = .pointer (some ⟨b4, 0, none⟩) := slott hF 0 hLi 7 (by kernel_rfl)
          refine step_do ho' (wanted_free rfl) ?_
          unfold Oper.wp
          go_simp
          exact hK _ _ (.inr rfl) ⟨(hF.j.1.congr (fun i hi => if_off (by decide) hi) (fun i hi => if_off (by decide) hi) (fun i hi => if_off (by decide) hi)), hF.j.2⟩
        · have ho' := ho
          obtain rfl := Option.some.inj ho
          have f5 : ac.tmps.getD 5 undef = .pointer (some ⟨g2, 0, none⟩) := slott hF 1 hLi 5 (by kernel_rfl)
          refine step_do ho' (wanted_free rfl) ?_
          unfold Oper.wp
          go_simp
          exact hK _ _ (.inr rfl) ⟨(hF.j.1.congr (fun i hi => if_off (by decide) hi) (fun i hi => if_off (by decide) hi) (fun i hi => if_off (by decide) hi)), hF.j.2⟩
        · have ho' := ho
          obtain rfl := Option.some.inj ho
          have f1 : ac.tmps.getD 1 undef = .slice ta m.length tc := slott hF 2 hLi 1 (by kernel_rfl)
          refine step_do ho' (wanted_free rfl) ?_
          unfold Oper.wp
          go_simp
          exact hK _ _ (.inr rfl) ⟨(hF.j.1.congr (fun i hi => if_off (by decide) hi) (fun i hi => if_off (by decide) hi) (fun i hi => if_off (by decide) hi)), hF.j.2⟩
        · have ho' := ho
          obtain rfl := Option.some.inj ho
          have f38 : ac.tmps.getD 38 undef = .slice (some ⟨b4, 0, none⟩) 32 32 := (factt hF hd 0 rfl rfl (by kernel_rfl)).1.trans (factt hF hd 0 rfl rfl (by kernel_rfl)).2
          have f39 : ac.tmps.getD 39 undef = .slice (some ⟨g2, 0, none⟩) 32 32 := (factt hF hd 1 rfl rfl (by kernel_rfl)).1.trans (factt hF hd 1 rfl rfl (by kernel_rfl)).2
          have f40 : ac.tmps.getD 40 undef = .slice ta m.length tc := (factt hF hd 2 rfl rfl (by kernel_rfl)).1.trans (factt hF hd 2 rfl rfl (by kernel_rfl)).2
          refine step_do ho' (wanted_free rfl) ?_
          have q38 := getq f38
          have q39 := getq f39
          have q40 := getq f40
          unfold Oper.wp
          go_simp
          exact hK _ _ (.inr ⟨_, rfl⟩) ⟨((hF.j.1.congr (fun i hi => if_off (by decide) hi) (fun i hi => if_off (by decide) hi) (fun i hi => if_off (by decide) hi))).below (alloc_below _ _), (fun _ _ => ⟨_, rfl, rows3 (bytes_own (hF.j.1.1.at b4 (B32 (bdig R)) 22 (.tail _ (.head _)))) (fun h => by cases h) (bytes_own (hF.j.1.1.at g2 (B32 (bdig y)) 22 (.tail _ (.tail _ (.tail _ (.head _)))))) (fun h => by cases h) ((hm.below hF.j.1.1.2).1) hm.2⟩)⟩
        · have ho' := ho
          obtain rfl := Option.some.inj ho
          refine step_do ho' (wanted_free rfl) ?_
          obtain ⟨aq, eq, hq⟩ := hF.j.2 (dep hd 3 (by kernel_rfl)) hLi
          have f41 := (factt hF hd 3 rfl rfl (by kernel_rfl)).1
          rw [eq] at f41
          unfold Oper.wp
          go_simp
          refine (F.wsumA hfl.out Hz.out hln.out _ (F.keep _ _ hT hF.j.1.1.2) hq).mono ?_
          rintro e w' ⟨rfl, hB⟩
          exact hK _ _ (.inr rfl) ⟨((hF.j.1.congr (fun i hi => if_off (by decide) hi) (fun i hi => if_off (by decide) hi) (fun i hi => if_off (by decide) hi))).below hB, (fun _ h => by cases h)⟩
        · have ho' := ho
          obtain rfl := Option.some.inj ho
          have f42 : ac.tmps.getD 42 undef = .agg (B64 (bdig z)) := (factt hF hd 4 rfl rfl (by kernel_rfl)).1.trans (factt hF hd 4 rfl rfl (by kernel_rfl)).2
          refine step_do ho' (wanted_free rfl) ?_
          unfold Oper.wp
          go_simp
          refine (F.swideA hzl.out hzk.out _ (F.keep _ _ hT hF.j.1.1.2)).mono ?_
          rintro e w' ⟨rfl, hB⟩
          exact hK _ _ (.inr rfl) ⟨((hF.j.1.congr (fun i hi => if_off (by decide) hi) (fun i hi => if_off (by decide) hi) (fun i hi => if_off (by decide) hi))).below hB, (fun h1 h2 => rows_bel (hF.j.2 h1 h2) hB)⟩
        · have ho' := ho
          obtain rfl := Option.some.inj ho
          refine step_do ho' (wanted_free rfl) ?_
          have hs := notyett hF 6 hLi 7 rfl (by kernel_rfl)
          unfold Oper.wp
          go_simp
          exact hK _ _ (.inr ⟨_, rfl⟩) ⟨hF.j.1.alloc 0 (fun i _ hne => if_oth (k := 0) rfl hne) (fun i hi => if_off (by decide) hi) (fun i _ hne => if_oth (k := 0) rfl hne) rfl hs, (fun h1 h2 => rows_bel (hF.j.2 h1 h2) (alloc_below _ _))⟩
        · have ho' := ho
          obtain rfl := Option.some.inj ho
          have f43 : ac.tmps.getD 43 undef = .agg (B32 (bdig k)) := (factt hF hd 5 rfl rfl (by kernel_rfl)).1.trans (factt hF hd 5 rfl rfl (by kernel_rfl)).2
          refine step_do ho' (wanted_free rfl) ?_
          have hq5 := dep hd 5 (by kernel_rfl)
          have hq4 := dept hF 5 rfl hq5 4 (by kernel_rfl)
          obtain ⟨fg, gq, hg⟩ := factt hF hd 6 rfl rfl (by kernel_rfl)
          have hm_ := dep hd 6 (by kernel_rfl)
          have hj := hF.j.1
          rw [hg] at fg
          have hj2 := hj.at (k := 0) (by decide) hm_ hg hLi
          refine wp_store_own 22 (.tmp 10) (.tmp 43) rfl gq (B32 (bdig k)) fg f43 hj2.2.2 (B32_sizes _ _) (B32_info _) (B32_one _) rfl ?_
          exact hK undef _ (.inl rfl) ⟨hj.storeA (k := 0) (A := B32 (bdig k)) rfl (by decide) hm_ hg hLi (B32_sizes _ _) (fun i hi => if_off (by decide) hi) (fun i _ hne => if_oth (k := 0) rfl hne) (fun i hi => if_off (by decide) hi) rfl, (fun _ h => by have h : L 4 = false := h; rw [hq4] at h; cases h)⟩
        · cases ho
      intro L vs V7 hL hJ hf
      have hJ := hJ.1
      obtain ⟨aq3, eb3⟩ := hf 3 _ _ rfl rfl
      obtain ⟨g8, hgg8⟩ := hf 6 _ _ rfl rfl
      obtain ⟨le0, apg8, owng8⟩ := hJ.gotA (k := 0) (A := B32 (bdig k)) rfl (by decide) (hL 6 (by decide)) hgg8 (hL 7 (by decide))
      have le_g8 := show Hid _ from le0
      clear le0
      have ne_b5_g8 : Hid (b5 ≠ g8) := apg8 (b5, B32 (bdig S), 22) (.head _)
      have ne_b4_g8 : Hid (b4 ≠ g8) := apg8 (b4, B32 (bdig R), 22) (.tail _ (.head _))
      have ne_g3_g8 : Hid (g3 ≠ g8) := apg8 (g3, B64 (bdig (two R S)), 24) (.tail _ (.tail _ (.head _)))
      have ne_g2_g8 : Hid (g2 ≠ g8) := apg8 (g2, B32 (bdig y), 22) (.tail _ (.tail _ (.tail _ (.head _))))
      have ne_bA_g8 : Hid (bA ≠ g8) := apg8 (bA, B32 (bdig n), 22) (.tail _ (.tail _ (.tail _ (.tail _ (.head _)))))
      have hK : Kp [(g8, B32 (bdig k), 22), (b5, B32 (bdig S), 22), (b4, B32 (bdig R), 22), (g3, B64 (bdig (two R S)), 24), (g2, B32 (bdig y), 22), (bA, B32 (bdig n), 22)] w V7 := (hJ.1.cons owng8)
      have e0 : vs 0 = _ := hf 0 _ _ rfl rfl
      have e1 : vs 1 = _ := hf 1 _ _ rfl rfl
      have e2 : vs 2 = _ := hf 2 _ _ rfl rfl
      have e4 : vs 4 = _ := hf 4 _ _ rfl rfl
      have e5 : vs 5 = _ := hf 5 _ _ rfl rfl
      simp only [putAll, Nat.zero_add, Nat.reduceAdd, e0, e1, e2, e4, e5, eb3, hgg8, Act.put, List.setIfInBounds_toArray, List.set_cons_succ, List.set_cons_zero]
      clear hJ hf hL e0 e1 e2 e4 e5 eb3 hgg8 apg8 owng8
      go_wp2_with (first
        | refine wpList_load_own (by rfl) 22 (.tmp 10) (by rfl) g8 (by rfl) (B32 (bdig k)) _ (hK.at g8 (B32 (bdig k)) 22 (.head _)) Tryd.underlying22 (by rfl) (B32_info _) ?_
        | refine wpList_load_own (by rfl) 22 (.tmp 5) (by rfl) g2 (by rfl) (B32 (bdig y)) _ (hK.at g2 (B32 (bdig y)) 22 (.tail _ (.tail _ (.tail _ (.tail _ (.head _)))))) Tryd.underlying22 (by rfl) (B32_info _) ?_)
      refine (F.mulA lk.out HP.out.1 Hx.out _ (F.keep _ _ hT hK.2)).mono ?_
      rintro e V9 ⟨rfl, bw⟩
      have hK := hK.below bw
      clear bw
      go_upto_region 11 with (refine wpList_store_new (by rfl) 22 (.tmp 11) (.tmp 48) (by rfl) _ (B32 (bdig x)) (by rfl) (by rfl) (B32_info _) (B32_sizes _ _) (B32_one _) (by rfl) ?_)
      have lt_g8 := (hK.at g8 (B32 (bdig k)) 22 (.head _)).lt
      have lt_b5 := (hK.at b5 (B32 (bdig S)) 22 (.tail _ (.head _))).lt
      have lt_b4 := (hK.at b4 (B32 (bdig R)) 22 (.tail _ (.tail _ (.head _)))).lt
      have lt_g3 := (hK.at g3 (B64 (bdig (two R S))) 24 (.tail _ (.tail _ (.tail _ (.head _))))).lt
      have lt_g2 := (hK.at g2 (B32 (bdig y)) 22 (.tail _ (.tail _ (.tail _ (.tail _ (.head _)))))).lt
      have lt_bA := (hK.at bA (B32 (bdig n)) 22 (.tail _ (.tail _ (.tail _ (.tail _ (.tail _ (.head _))))))).lt
      have le_b10 := show Hid _ from hK.2.size
      have hK := hK.alloc (B32 (bdig x)) 22
      generalize V9.alloc (.cells (B32 (bdig x)) 22) = V11 at *
      obtain ⟨b10, Hb10⟩ : ∃ b, Hid (V9.heap.size = b) := ⟨_, rfl⟩
      have ne_g8_b10 : Hid (g8 ≠ b10) := by show _ ≠ _; rw [← Hb10.out]; exact Nat.ne_of_lt lt_g8
      have ne_b5_b10 : Hid (b5 ≠ b10) := by show _ ≠ _; rw [← Hb10.out]; exact Nat.ne_of_lt lt_b5
      have ne_b4_b10 : Hid (b4 ≠ b10) := by show _ ≠ _; rw [← Hb10.out]; exact Nat.ne_of_lt lt_b4
      have ne_g3_b10 : Hid (g3 ≠ b10) := by show _ ≠ _; rw [← Hb10.out]; exact Nat.ne_of_lt lt_g3
      have ne_g2_b10 : Hid (g2 ≠ b10) := by show _ ≠ _; rw [← Hb10.out]; exact Nat.ne_of_lt lt_g2
      have ne_bA_b10 : Hid (bA ≠ b10) := by show _ ≠ _; rw [← Hb10.out]; exact Nat.ne_of_lt lt_bA
      have le_b10 : Hid (w.heap.size ≤ b10) := by show _ ≤ _; rw [← Hb10.out]; exact le_b10.out
      rw [Hb10.out] at hK ⊢
      clear lt_g8 lt_b5 lt_b4 lt_g3 lt_g2 lt_bA
      go_wp2_with (first
        | refine wpList_load_own (by rfl) 22 (.tmp 7) (by rfl) b4 (by rfl) (B32 (bdig R)) _ (hK.at b4 (B32 (bdig R)) 22 (.tail _ (.tail _ (.tail _ (.head _))))) Tryd.underlying22 (by rfl) (B32_info _) ?_
        | refine wpList_load_own (by rfl) 22 (.tmp 11) (by rfl) b10 (by rfl) (B32 (bdig x)) _ (hK.at b10 (B32 (bdig x)) 22 (.head _)) Tryd.underlying22 (by rfl) (B32_info _) ?_)
      refine (F.addA HR2.out Hx.out Hs.out _ (F.keep _ _ hT hK.2)).mono ?_
      rintro e V12 ⟨rfl, bw⟩
      have hK := hK.below bw
      clear bw
      go_upto_region 12 with (refine wpList_store_new (by rfl) 22 (.tmp 13) (.tmp 54) (by rfl) _ (B32 (bdig t)) (by rfl) (by rfl) (B32_info _) (B32_sizes _ _) (B32_one _) (by rfl) ?_)
      have lt_b10 := (hK.at b10 (B32 (bdig x)) 22 (.head _)).lt
      have lt_g8 := (hK.at g8 (B32 (bdig k)) 22 (.tail _ (.head _))).lt
      have lt_b5 := (hK.at b5 (B32 (bdig S)) 22 (.tail _ (.tail _ (.head _)))).lt
      have lt_b4 := (hK.at b4 (B32 (bdig R)) 22 (.tail _ (.tail _ (.tail _ (.head _))))).lt
      have lt_g3 := (hK.at g3 (B64 (bdig (two R S))) 24 (.tail _ (.tail _ (.tail _ (.tail _ (.head _)))))).lt
      have lt_g2 := (hK.at g2 (B32 (bdig y)) 22 (.tail _ (.tail _ (.tail _ (.tail _ (.tail _ (.head _))))))).lt
      have lt_bA := (hK.at bA (B32 (bdig n)) 22 (.tail _ (.tail _ (.tail _ (.tail _ (.tail _ (.tail _ (.head _)))))))).lt
      have le_b13 := show Hid _ from hK.2.size
      have hK := hK.alloc (B32 (bdig t)) 22
      generalize V12.alloc (.cells (B32 (bdig t)) 22) = V14 at *
      obtain ⟨b13, Hb13⟩ : ∃ b, Hid (V12.heap.size = b) := ⟨_, rfl⟩
      have ne_b10_b13 : Hid (b10 ≠ b13) := by show _ ≠ _; rw [← Hb13.out]; exact Nat.ne_of_lt lt_b10
      have ne_g8_b13 : Hid (g8 ≠ b13) := by show _ ≠ _; rw [← Hb13.out]; exact Nat.ne_of_lt lt_g8
      have ne_b5_b13 : Hid (b5 ≠ b13) := by show _ ≠ _; rw [← Hb13.out]; exact Nat.ne_of_lt lt_b5
      have ne_b4_b13 : Hid (b4 ≠ b13) := by show _ ≠ _; rw [← Hb13.out]; exact Nat.ne_of_lt lt_b4
      have ne_g3_b13 : Hid (g3 ≠ b13) := by show _ ≠ _; rw [← Hb13.out]; exact Nat.ne_of_lt lt_g3
      have ne_g2_b13 : Hid (g2 ≠ b13) := by show _ ≠ _; rw [← Hb13.out]; exact Nat.ne_of_lt lt_g2
      have ne_bA_b13 : Hid (bA ≠ b13) := by show _ ≠ _; rw [← Hb13.out]; exact Nat.ne_of_lt lt_bA
      have le_b13 : Hid (w.heap.size ≤ b13) := by show _ ≤ _; rw [← Hb13.out]; exact le_b13.out
      rw [Hb13.out] at hK ⊢
      clear lt_b10 lt_g8 lt_b5 lt_b4 lt_g3 lt_g2 lt_bA
      refine wp_region_vals 90 (by kernel_rfl) (by kernel_rfl) (by rfl) (valEq12 n y R S t ta tc m) (fun _ => Kp [(b13, B32 (bdig t), 22), (b10, B32 (bdig x), 22), (g8, B32 (bdig k), 22), (b5, B32 (bdig S), 22), (b4, B32 (bdig R), 22), (g3, B64 (bdig (two R S)), 24), (g2, B32 (bdig y), 22), (bA, B32 (bdig n), 22)] w) hK.drew ?_ ?_
      · intro L ac wc i o hF hLi ho hd K hK
        rcases i with _ | _ | _ | _ | _ | _ | _ | _ | _ | _ | _ | _ | _ | _ | _ | _ | _ | _ | _ | _ | _ | _ | _ | _ | _ | _ | _ | _ | _ | _ | _ | _ | _ | _ | _ | i
        · have ho' := ho
          obtain rfl := Option.some.inj ho
          have f12 : ac.tmps.getD 12 undef = .int .i64 (0) := slotv hF 0 hLi 12 (by kernel_rfl)
          refine step_do ho' (wanted_free rfl) ?_
          unfold Oper.wp
          go_simp
          exact hK _ _ (.inr rfl) hF.j
        · have ho' := ho
          obtain rfl := Option.some.inj ho
          have f56 : ac.tmps.getD 56 undef = .int .i64 (0) := valv hF hd 0 rfl rfl (by kernel_rfl)
          refine step_do ho' (wanted_free rfl) ?_
          unfold Oper.wp
          go_simp
          exact hK _ _ (.inr rfl) hF.j
        · have ho' := ho
          obtain rfl := Option.some.inj ho
          have f57 : ac.tmps.getD 57 undef = .bool true := valv hF hd 1 rfl rfl (by kernel_rfl)
          refine step_do ho' (wanted_free rfl) ?_
          unfold Oper.wp
          go_simp
          exact hK _ _ (.inr rfl) hF.j
        · have ho' := ho
          obtain rfl := Option.some.inj ho
          have f14 : ac.tmps.getD 14 undef = .int .i64 (0) := slotv hF 3 hLi 14 (by kernel_rfl)
          have fg : ac.tmps.getD 58 undef = .bool true := valv hF hd 2 rfl rfl (by kernel_rfl)
          refine step_do ho' (wanted_so (g := 2) rfl rfl rfl fg) ?_
          unfold Oper.wp
          go_simp
          exact hK _ _ (.inr rfl) hF.j
        · have ho' := ho
          obtain rfl := Option.some.inj ho
          have f59 : ac.tmps.getD 59 undef = .int .i64 (0) := valv hF hd 3 rfl rfl (by kernel_rfl)
          have fg : ac.tmps.getD 58 undef = .bool true := valv hF hd 2 rfl rfl (by kernel_rfl)
          refine step_do ho' (wanted_so (g := 2) rfl rfl rfl fg) ?_
          unfold Oper.wp
          go_simp
          exact hK _ _ (.inr rfl) hF.j
        · have ho' := ho
          obtain rfl := Option.some.inj ho
          have f58 : ac.tmps.getD 58 undef = .bool true := valv hF hd 2 rfl rfl (by kernel_rfl)
          have f60 : ac.tmps.getD 60 undef = .bool true := valv hF hd 4 rfl rfl (by kernel_rfl)
          refine step_do ho' (wanted_free rfl) ?_
          unfold Oper.wp
          go_simp
          exact hK _ _ (.inr rfl) hF.j
        · have ho' := ho
          obtain rfl := Option.some.inj ho
          have f61 : ac.tmps.getD 61 undef = .bool true := valv hF hd 5 rfl rfl (by kernel_rfl)
          refine step_do ho' (wanted_free rfl) ?_
          unfold Oper.wp
          go_simp
          exact hK _ _ (.inr rfl) hF.j
        · have ho' := ho
          obtain rfl := Option.some.inj ho
          have f8 : ac.tmps.getD 8 undef = .pointer (some ⟨b5, 0, none⟩) := slotv hF 7 hLi 8 (by kernel_rfl)
          have fg : ac.tmps.getD 62 undef = .bool true := valv hF hd 6 rfl rfl (by kernel_rfl)
          refine step_do ho' (wanted_so (g := 6) rfl rfl rfl fg) ?_
          exact wp_load_own 22 (.tmp 8) rfl b5 f8 (B32 (bdig S)) _ 22 (hF.j.at b5 (B32 (bdig S)) 22 (.tail _ (.tail _ (.tail _ (.head _))))) Tryd.underlying22 rfl (B32_info _) (hK _ _ (.inr rfl) hF.j)
        · have ho' := ho
          obtain rfl := Option.some.inj ho
          have f63 : ac.tmps.getD 63 undef = .agg (B32 (bdig S)) := valv hF hd 7 rfl rfl (by kernel_rfl)
          have fg : ac.tmps.getD 62 undef = .bool true := valv hF hd 6 rfl rfl (by kernel_rfl)
          refine step_do ho' (wanted_so (g := 6) rfl rfl rfl fg) ?_
          unfold Oper.wp
          go_simp
          refine (F.scheckA lS.out hSL.out _ (F.keep _ _ hT hF.j.2)).mono ?_
          rintro e w' ⟨rfl, hB⟩
          exact hK _ _ (.inr rfl) ((hF.j).below hB)
        · have ho' := ho
          obtain rfl := Option.some.inj ho
          have f62 : ac.tmps.getD 62 undef = .bool true := valv hF hd 6 rfl rfl (by kernel_rfl)
          have f64 : ac.tmps.getD 64 undef = .bool true := valv hF hd 8 rfl rfl (by kernel_rfl)
          refine step_do ho' (wanted_free rfl) ?_
          unfold Oper.wp
          go_simp
          exact hK _ _ (.inr rfl) hF.j
        · have ho' := ho
          obtain rfl := Option.some.inj ho
          have f65 : ac.tmps.getD 65 undef = .bool true := valv hF hd 9 rfl rfl (by kernel_rfl)
          refine step_do ho' (wanted_free rfl) ?_
          unfold Oper.wp
          go_simp
          exact hK _ _ (.inr rfl) hF.j
        · have ho' := ho
          obtain rfl := Option.some.inj ho
          have f7 : ac.tmps.getD 7 undef = .pointer (some ⟨b4, 0, none⟩) := slotv hF 11 hLi 7 (by kernel_rfl)
          have fg : ac.tmps.getD 66 undef = .bool true := valv hF hd 10 rfl rfl (by kernel_rfl)
          refine step_do ho' (wanted_so (g := 10) rfl rfl rfl fg) ?_
          exact wp_load_own 22 (.tmp 7) rfl b4 f7 (B32 (bdig R)) _ 22 (hF.j.at b4 (B32 (bdig R)) 22 (.tail _ (.tail _ (.tail _ (.tail _ (.head _)))))) Tryd.underlying22 rfl (B32_info _) (hK _ _ (.inr rfl) hF.j)
        · have ho' := ho
          obtain rfl := Option.some.inj ho
          have f67 : ac.tmps.getD 67 undef = .agg (B32 (bdig R)) := valv hF hd 11 rfl rfl (by kernel_rfl)
          have fg : ac.tmps.getD 66 undef = .bool true := valv hF hd 10 rfl rfl (by kernel_rfl)
          refine step_do ho' (wanted_so (g := 10) rfl rfl rfl fg) ?_
          unfold Oper.wp
          go_simp
          refine (F.checkA HR2.out _ (F.keep _ _ hT hF.j.2)).mono ?_
          rintro e w' ⟨rfl, hB⟩
          exact hK _ _ (.inr rfl) ((hF.j).below hB)
        · have ho' := ho
          obtain rfl := Option.some.inj ho
          have f66 : ac.tmps.getD 66 undef = .bool true := valv hF hd 10 rfl rfl (by kernel_rfl)
          have f68 : ac.tmps.getD 68 undef = .bool true := valv hF hd 12 rfl rfl (by kernel_rfl)
          refine step_do ho' (wanted_free rfl) ?_
          unfold Oper.wp
          go_simp
          exact hK _ _ (.inr rfl) hF.j
        · have ho' := ho
          obtain rfl := Option.some.inj ho
          have f69 : ac.tmps.getD 69 undef = .bool true := valv hF hd 13 rfl rfl (by kernel_rfl)
          refine step_do ho' (wanted_free rfl) ?_
          unfold Oper.wp
          go_simp
          exact hK _ _ (.inr rfl) hF.j
        · have ho' := ho
          obtain rfl := Option.some.inj ho
          have f5 : ac.tmps.getD 5 undef = .pointer (some ⟨g2, 0, none⟩) := slotv hF 15 hLi 5 (by kernel_rfl)
          have fg : ac.tmps.getD 70 undef = .bool true := valv hF hd 14 rfl rfl (by kernel_rfl)
          refine step_do ho' (wanted_so (g := 14) rfl rfl rfl fg) ?_
          exact wp_load_own 22 (.tmp 5) rfl g2 f5 (B32 (bdig y)) _ 22 (hF.j.at g2 (B32 (bdig y)) 22 (.tail _ (.tail _ (.tail _ (.tail _ (.tail _ (.tail _ (.head _)))))))) Tryd.underlying22 rfl (B32_info _) (hK _ _ (.inr rfl) hF.j)
        · have ho' := ho
          obtain rfl := Option.some.inj ho
          have f71 : ac.tmps.getD 71 undef = .agg (B32 (bdig y)) := valv hF hd 15 rfl rfl (by kernel_rfl)
          have fg : ac.tmps.getD 70 undef = .bool true := valv hF hd 14 rfl rfl (by kernel_rfl)
          refine step_do ho' (wanted_so (g := 14) rfl rfl rfl fg) ?_
          unfold Oper.wp
          go_simp
          refine (F.checkA HP.out.1 _ (F.keep _ _ hT hF.j.2)).mono ?_
          rintro e w' ⟨rfl, hB⟩
          exact hK _ _ (.inr rfl) ((hF.j).below hB)
        · have ho' := ho
          obtain rfl := Option.some.inj ho
          have f70 : ac.tmps.getD 70 undef = .bool true := valv hF hd 14 rfl rfl (by kernel_rfl)
          have f72 : ac.tmps.getD 72 undef = .bool true := valv hF hd 16 rfl rfl (by kernel_rfl)
          refine step_do ho' (wanted_free rfl) ?_
          unfold Oper.wp
          go_simp
          exact hK _ _ (.inr rfl) hF.j
        · have ho' := ho
          obtain rfl := Option.some.inj ho
          have f73 : ac.tmps.getD 73 undef = .bool true := valv hF hd 17 rfl rfl (by kernel_rfl)
          refine step_do ho' (wanted_free rfl) ?_
          unfold Oper.wp
          go_simp
          exact hK _ _ (.inr rfl) hF.j
        · have ho' := ho
          obtain rfl := Option.some.inj ho
          have f8 : ac.tmps.getD 8 undef = .pointer (some ⟨b5, 0, none⟩) := slotv hF 19 hLi 8 (by kernel_rfl)
          have fg : ac.tmps.getD 74 undef = .bool true := valv hF hd 18 rfl rfl (by kernel_rfl)
          refine step_do ho' (wanted_so (g := 18) rfl rfl rfl fg) ?_
          exact wp_load_own 22 (.tmp 8) rfl b5 f8 (B32 (bdig S)) _ 22 (hF.j.at b5 (B32 (bdig S)) 22 (.tail _ (.tail _ (.tail _ (.head _))))) Tryd.underlying22 rfl (B32_info _) (hK _ _ (.inr rfl) hF.j)
        · have ho' := ho
          obtain rfl := Option.some.inj ho
          have f75 : ac.tmps.getD 75 undef = .agg (B32 (bdig S)) := valv hF hd 19 rfl rfl (by kernel_rfl)
          have fg : ac.tmps.getD 74 undef = .bool true := valv hF hd 18 rfl rfl (by kernel_rfl)
          refine step_do ho' (wanted_so (g := 18) rfl rfl rfl fg) ?_
          unfold Oper.wp
          go_simp
          refine (F.baseA lS.out Ht.out _ (F.keep _ _ hT hF.j.2)).mono ?_
          rintro e w' ⟨rfl, hB⟩
          exact hK _ _ (.inr rfl) ((hF.j).below hB)
        · have ho' := ho
          obtain rfl := Option.some.inj ho
          have f13 : ac.tmps.getD 13 undef = .pointer (some ⟨b13, 0, none⟩) := slotv hF 21 hLi 13 (by kernel_rfl)
          have fg : ac.tmps.getD 74 undef = .bool true := valv hF hd 18 rfl rfl (by kernel_rfl)
          refine step_do ho' (wanted_so (g := 18) rfl rfl rfl fg) ?_
          exact wp_load_own 22 (.tmp 13) rfl b13 f13 (B32 (bdig t)) _ 22 (hF.j.at b13 (B32 (bdig t)) 22 (.head _)) Tryd.underlying22 rfl (B32_info _) (hK _ _ (.inr rfl) hF.j)
        · have ho' := ho
          obtain rfl := Option.some.inj ho
          have f76 : ac.tmps.getD 76 undef = .agg (B32 (bdig t)) := valv hF hd 20 rfl rfl (by kernel_rfl)
          have f77 : ac.tmps.getD 77 undef = .agg (B32 (bdig t)) := valv hF hd 21 rfl rfl (by kernel_rfl)
          have fg : ac.tmps.getD 74 undef = .bool true := valv hF hd 18 rfl rfl (by kernel_rfl)
          refine step_do ho' (wanted_so (g := 18) rfl rfl rfl fg) ?_
          unfold Oper.wp
          go_simp
          exact hK _ _ (.inr rfl) hF.j
        · have ho' := ho
          obtain rfl := Option.some.inj ho
          have f74 : ac.tmps.getD 74 undef = .bool true := valv hF hd 18 rfl rfl (by kernel_rfl)
          have f78 : ac.tmps.getD 78 undef = .bool true := valv hF hd 22 rfl rfl (by kernel_rfl)
          refine step_do ho' (wanted_free rfl) ?_
          unfold Oper.wp
          go_simp
          exact hK _ _ (.inr rfl) hF.j
        · have ho' := ho
          obtain rfl := Option.some.inj ho
          have f79 : ac.tmps.getD 79 undef = .bool true := valv hF hd 23 rfl rfl (by kernel_rfl)
          refine step_do ho' (wanted_free rfl) ?_
          unfold Oper.wp
          go_simp
          exact hK _ _ (.inr rfl) hF.j
        · have ho' := ho
          obtain rfl := Option.some.inj ho
          have f2 : ac.tmps.getD 2 undef = .pointer (some ⟨bA, 0, none⟩) := slotv hF 25 hLi 2 (by kernel_rfl)
          have fg : ac.tmps.getD 80 undef = .bool true := valv hF hd 24 rfl rfl (by kernel_rfl)
          refine step_do ho' (wanted_so (g := 24) rfl rfl rfl fg) ?_
          exact wp_load_own 22 (.tmp 2) rfl bA f2 (B32 (bdig n)) _ 22 (hF.j.at bA (B32 (bdig n)) 22 (.tail _ (.tail _ (.tail _ (.tail _ (.tail _ (.tail _ (.tail _ (.head _))))))))) Tryd.underlying22 rfl (B32_info _) (hK _ _ (.inr rfl) hF.j)
        · have ho' := ho
          obtain rfl := Option.some.inj ho
          have f1 : ac.tmps.getD 1 undef = .slice ta m.length tc := slotv hF 26 hLi 1 (by kernel_rfl)
          have fg : ac.tmps.getD 80 undef = .bool true := valv hF hd 24 rfl rfl (by kernel_rfl)
          refine step_do ho' (wanted_so (g := 24) rfl rfl rfl fg) ?_
          unfold Oper.wp
          go_simp
          exact hK _ _ (.inr rfl) hF.j
        · have ho' := ho
          obtain rfl := Option.some.inj ho
          have f81 : ac.tmps.getD 81 undef = .agg (B32 (bdig n)) := valv hF hd 25 rfl rfl (by kernel_rfl)
          have f82 : ac.tmps.getD 82 undef = .slice ta m.length tc := valv hF hd 26 rfl rfl (by kernel_rfl)
          have fg : ac.tmps.getD 80 undef = .bool true := valv hF hd 24 rfl rfl (by kernel_rfl)
          refine step_do ho' (wanted_so (g := 24) rfl rfl rfl fg) ?_
          unfold Oper.wp
          go_simp
          refine (hsig.out _ (F.keep _ _ hT hF.j.2) (hm.below hF.j.2)).mono ?_
          rintro e w' ⟨rfl, hB⟩
          exact hK _ _ (.inr rfl) ((hF.j).below hB)
        · have ho' := ho
          obtain rfl := Option.some.inj ho
          have f6 : ac.tmps.getD 6 undef = .pointer (some ⟨g3, 0, none⟩) := slotv hF 28 hLi 6 (by kernel_rfl)
          have fg : ac.tmps.getD 80 undef = .bool true := valv hF hd 24 rfl rfl (by kernel_rfl)
          refine step_do ho' (wanted_so (g := 24) rfl rfl rfl fg) ?_
          exact wp_load_own 24 (.tmp 6) rfl g3 f6 (B64 (bdig (two R S))) _ 24 (hF.j.at g3 (B64 (bdig (two R S))) 24 (.tail _ (.tail _ (.tail _ (.tail _ (.tail _ (.head _))))))) Tryd.underlying24 rfl (B64_info _) (hK _ _ (.inr rfl) hF.j)
        · have ho' := ho
          obtain rfl := Option.some.inj ho
          have f83 : ac.tmps.getD 83 undef = .agg (B64 (bdig (two R S))) := valv hF hd 27 rfl rfl (by kernel_rfl)
          have f84 : ac.tmps.getD 84 undef = .agg (B64 (bdig (two R S))) := valv hF hd 28 rfl rfl (by kernel_rfl)
          have fg : ac.tmps.getD 80 undef = .bool true := valv hF hd 24 rfl rfl (by kernel_rfl)
          refine step_do ho' (wanted_so (g := 24) rfl rfl rfl fg) ?_
          unfold Oper.wp
          go_simp
          exact hK _ _ (.inr rfl) hF.j
        · have ho' := ho
          obtain rfl := Option.some.inj ho
          have f80 : ac.tmps.getD 80 undef = .bool true := valv hF hd 24 rfl rfl (by kernel_rfl)
          have f85 : ac.tmps.getD 85 undef = .bool true := valv hF hd 29 rfl rfl (by kernel_rfl)
          refine step_do ho' (wanted_free rfl) ?_
          unfold Oper.wp
          go_simp
          exact hK _ _ (.inr rfl) hF.j
        · have ho' := ho
          obtain rfl := Option.some.inj ho
          have f86 : ac.tmps.getD 86 undef = .bool true := valv hF hd 30 rfl rfl (by kernel_rfl)
          refine step_do ho' (wanted_free rfl) ?_
          unfold Oper.wp
          go_simp
          exact hK _ _ (.inr rfl) hF.j
        · have ho' := ho
          obtain rfl := Option.some.inj ho
          have fg : ac.tmps.getD 87 undef = .bool true := valv hF hd 31 rfl rfl (by kernel_rfl)
          refine step_do ho' (wanted_so (g := 31) rfl rfl rfl fg) ?_
          unfold Oper.wp
          go_simp
          refine (wakes_is F _ (F.keep _ _ hT hF.j.2)).mono ?_
          rintro e w' ⟨rfl, hB⟩
          exact hK _ _ (.inr rfl) ((hF.j).below hB)
        · have ho' := ho
          obtain rfl := Option.some.inj ho
          have f87 : ac.tmps.getD 87 undef = .bool true := valv hF hd 31 rfl rfl (by kernel_rfl)
          have f88 : ac.tmps.getD 88 undef = .bool true := valv hF hd 32 rfl rfl (by kernel_rfl)
          refine step_do ho' (wanted_free rfl) ?_
          unfold Oper.wp
          go_simp
          exact hK _ _ (.inr rfl) hF.j
        · have ho' := ho
          obtain rfl := Option.some.inj ho
          have f89 : ac.tmps.getD 89 undef = .bool true := valv hF hd 33 rfl rfl (by kernel_rfl)
          refine step_do ho' (wanted_free rfl) ?_
          unfold Oper.wp
          go_simp
          exact hK _ _ (.inr rfl) hF.j
        · cases ho
      intro L V15 hL hKq
      have hK : Kp [(b13, B32 (bdig t), 22), (b10, B32 (bdig x), 22), (g8, B32 (bdig k), 22), (b5, B32 (bdig S), 22), (b4, B32 (bdig R), 22), (g3, B64 (bdig (two R S)), 24), (g2, B32 (bdig y), 22), (bA, B32 (bdig n), 22)] w V15 := hKq
      clear hKq hL
      simp only [putAll, valEq12, Act.put, List.setIfInBounds_toArray, List.set_cons_succ, List.set_cons_zero]
      go_wp2
      go_ret
      exact ⟨rfl, hK.2⟩
end Go.Proofs.YtfkcphbbabaefaaDoor
