/- Of the texts SD1: what the card of this claim reaches. -/
import Derived.Test.YtfkcphbbabaefaaGreatDoorXC39
import Derived.Test.YtfkcphbbabaefaaGreatDoorXC41
import Derived.Test.YtfkcphbbabaefaaGreatDoorXC3
namespace Go.Proofs.YtfkcphbbabaefaaGreatDoor
open Go Go.RowKit
theorem psum32 {b n z : Nat} {t : TypeId} {w : World} (ho : Own w b (B32 (bdig n)) t) (hz : dn (by32 n) = z) : Calls Tryz.prog 24 #[.slice (some ⟨b, 0, none⟩) 32 32] w fun e w' => e = .returned (.agg (B64 (bdig z))) ∧ Below w.heap.size w w' := by
  have h := psum512 (a := some ⟨b, 0, none⟩) (cap := 32) (l := by32 n) hz (by rw [by32_length]; decide) w ⟨by have := bytes_own ho; rw [← by32_length n] at this; exact this, fun h => by cases h⟩
  rw [by32_length] at h
  exact h
theorem pjoin32 {a : Option Addr} {hi : Nat} (w : World) (hR : H.RowsV w a 1 1 [by32 hi]) :
    Calls Tryz.prog 25 #[.slice a 1 1] w fun e w' => ∃ aq cq g X, e = .returned (.slice aq 32 cq) ∧ w.heap.size ≤ g ∧ Own w' g X 5 ∧ (∀ W, Own W g X 5 → H.BytesV W aq 32 cq (by32 hi) ∧ (aq = none → cq = 0)) ∧ Below w.heap.size w w' := by
  have hf : [by32 hi].flatten = by32 hi := by simp
  have h := H.join_own a 1 1 [by32 hi] w hR (by rw [hf, by32_length]; decide)
  rw [hf, by32_length] at h
  refine h.mono fun e w' ⟨a', cap', h1, hO, _, hn, hB⟩ => ?_
  have hO' := hO
  obtain ⟨k1, ⟨k2, k3⟩ | ⟨g, cap, cur, k2, k3, k4, k5⟩⟩ := hO'
  · rw [by32_length] at k3; cases k3
  · refine ⟨a', cap', g, cur, h1, k3, k4, fun W hW => ⟨?_, hn⟩, hB⟩
    have hO2 : H.OwnBytes W w.heap.size (.slice a' 32 cap') (by32 hi) := ⟨k1, .inr ⟨g, cap, cur, k2, k3, hW, k5⟩⟩
    obtain ⟨a2, c2, e2, hv⟩ := hO2.form (by32_bys hi)
    rw [by32_length] at e2 hv
    simp only [Value.slice.injEq, true_and] at e2
    obtain ⟨rfl, rfl⟩ := e2
    exact hv
def SeedR (c hi : Nat) (w : World) (x : Ending) (w' : World) : Prop := ∃ ja jc bX X, x = .returned (.tuple #[.agg (B32 (bdig c)), .slice ja 32 jc]) ∧ (∀ W, Own W bX X 5 → H.BytesV W ja 32 jc (by32 hi) ∧ (ja = none → jc = 0)) ∧ Own w' bX X 5 ∧ w.heap.size ≤ bX ∧ Below w.heap.size w w'
theorem seedR_mk {c hi : Nat} {w w' : World} {x : Ending} {ja : Option Addr} {jc bX : Nat} {X : Array Value} (h1 : x = .returned (.tuple #[.agg (B32 (bdig c)), .slice ja 32 jc])) (h2 : ∀ W, Own W bX X 5 → H.BytesV W ja 32 jc (by32 hi) ∧ (ja = none → jc = 0)) (h3 : Own w' bX X 5) (h4 : w.heap.size ≤ bX) (h5 : Below w.heap.size w w') : SeedR c hi w x w' := ⟨ja, jc, bX, X, h1, h2, h3, h4, h5⟩
def valSeed3 (b2 b4 : Nat) : Nat → Value
  | 0 => .slice (some ⟨b4, 0, none⟩) 32 32
  | 1 => .slice (some ⟨b2, 0, none⟩) 32 64
  | 2 => .int .i64 (32)
  | _ => undef
def factSeed4 (lo c b2 : Nat) : Nat → Value → Prop
  | 0, vq => vq = .agg (B32 (bdig lo))
  | 1, vq => vq = .agg (numA c)
  | 2, vq => vq = .agg (B32 (bdig c))
  | 3, vq => vq = .slice (some ⟨b2, 32, none⟩) 32 32
  | 4, vq => ∃ aq, vq = .slice aq 1 1
  | _, _ => True
theorem xo_bel {w0 w w' : World} {v : Value} {b : Nat} {l : List Int} (h : ∃ aq cq gq X, v = .slice aq 32 cq ∧ w0.heap.size ≤ gq ∧ b ≠ gq ∧ Own w gq X 5 ∧ ∀ W, Own W gq X 5 → H.BytesV W aq 32 cq l ∧ (aq = none → cq = 0)) (hB : Below w.heap.size w w') : ∃ aq cq gq X, v = .slice aq 32 cq ∧ w0.heap.size ≤ gq ∧ b ≠ gq ∧ Own w' gq X 5 ∧ ∀ W, Own W gq X 5 → H.BytesV W aq 32 cq l ∧ (aq = none → cq = 0) := by
  obtain ⟨aq, cq, gq, X, h1, h2, h3, h4, h5⟩ := h
  exact ⟨aq, cq, gq, X, h1, h2, h3, h4.below hB h4.lt, h5⟩
theorem ro_bel {w w' : World} {v : Value} {b : Nat} {A : Array Value} (h : ∃ gr, v = .slice (some ⟨gr, 0, none⟩) 1 1 ∧ b ≠ gr ∧ Own w gr A 23) (hB : Below w.heap.size w w') : ∃ gr, v = .slice (some ⟨gr, 0, none⟩) 1 1 ∧ b ≠ gr ∧ Own w' gr A 23 := by
  obtain ⟨gr, h1, h2, h3⟩ := h
  exact ⟨gr, h1, h2, h3.below hB h3.lt⟩
theorem ro_set {w : World} {v : Value} {b : Nat} {A D : Array Value} (h : ∃ gr, v = .slice (some ⟨gr, 0, none⟩) 1 1 ∧ b ≠ gr ∧ Own w gr A 23) : ∃ gr, v = .slice (some ⟨gr, 0, none⟩) 1 1 ∧ b ≠ gr ∧ Own (w.setCells b 0 D.toList) gr A 23 := by
  obtain ⟨gr, h1, h2, h3⟩ := h
  exact ⟨gr, h1, h2, Own.setCells_other (Ne.symm h2) _ _ _ h3⟩
theorem rows_own1 {w : World} {g n c : Nat} {a : Option Addr} {m : List Int} (h : Own w g #[.slice a n c] 23) (hv : H.BytesV w a n c m) (hn : a = none → c = 0) : H.RowsV w (some ⟨g, 0, none⟩) 1 1 [m] := by
  have e := hv.1
  subst e
  refine ⟨rfl, Nat.le_refl _, by decide, fun _ => ⟨g, 0, rfl, fun i m' hm' => ?_⟩⟩
  rcases i with _ | i
  · obtain rfl : m = m' := by simpa using hm'
    exact ⟨a, c, h.cell rfl, hv, hn⟩
  · simp at hm'
theorem xo_set {w0 w : World} {v : Value} {b : Nat} {l : List Int} {A : Array Value} (h : ∃ aq cq gq X, v = .slice aq 32 cq ∧ w0.heap.size ≤ gq ∧ b ≠ gq ∧ Own w gq X 5 ∧ ∀ W, Own W gq X 5 → H.BytesV W aq 32 cq l ∧ (aq = none → cq = 0)) : ∃ aq cq gq X, v = .slice aq 32 cq ∧ w0.heap.size ≤ gq ∧ b ≠ gq ∧ Own (w.setCells b 0 A.toList) gq X 5 ∧ ∀ W, Own W gq X 5 → H.BytesV W aq 32 cq l ∧ (aq = none → cq = 0) := by
  obtain ⟨aq, cq, gq, X, h1, h2, h3, h4, h5⟩ := h
  exact ⟨aq, cq, gq, X, h1, h2, h3, Own.setCells_other (Ne.symm h3) _ _ _ h4, h5⟩
set_option maxRecDepth 100000 in
set_option maxHeartbeats 1000000 in
theorem seeded_at {n lo hi c : Nat} (Hd : Hid (dn (by32 n) = two lo hi)) (llo : Hid (lo < R256)) (Hc : Hid (clamp lo = c)) (w : World) : Calls Tryz.prog 22 #[.agg (B32 (bdig n))] w fun x w' => SeedR c hi w x w' := by
  have hz := (zero_of_info zeroB32).1
  have hz64 := (zero_of_info zeroB64).1
  go_enter Tryz.func22, Tryz.ntmps22
  go_upto_region 1 with fail
  have hK := ((Kp.nil w).alloc (B32 (bdig n)) 22).alloc (B32 fun _ => 0) 22
  rw [World.size_alloc] at hK
  generalize (w.alloc (.cells (B32 (bdig n)) 22)).alloc (.cells (B32 fun _ => 0) 22) = W at *
  obtain ⟨bA, HbA⟩ : ∃ b, Hid (w.heap.size = b) := ⟨_, rfl⟩
  obtain ⟨bR, HbR⟩ : ∃ b, Hid (bA + 1 = b) := ⟨_, rfl⟩
  have le_bA : Hid (w.heap.size ≤ bA) := by show _ ≤ _; have := HbA.out; omega
  have le_bR : Hid (w.heap.size ≤ bR) := by show _ ≤ _; have := HbA.out; have := HbR.out; omega
  have ne_bA_bR : Hid (bA ≠ bR) := by show _ ≠ _; have := HbR.out; omega
  rw [HbA.out, HbR.out] at hK ⊢
  go_wp2_with fail
  refine (psum32 (hK.at bA (B32 (bdig n)) 22 (.tail _ (.head _))) Hd.out).mono ?_
  rintro e V1 ⟨rfl, bw⟩
  have hK := hK.below bw
  clear bw
  go_upto_region 2 with (refine wpList_store_new (by rfl) 26 (.tmp 4) (.tmp 7) (by rfl) _ (B64 (bdig (two lo hi))) (by rfl) (by rfl) (B64_info _) (B64_sizes _ _) (B64_one _) (by rfl) ?_)
  have lt_bR := (hK.at bR (B32 fun _ => 0) 22 (.head _)).lt
  have lt_bA := (hK.at bA (B32 (bdig n)) 22 (.tail _ (.head _))).lt
  have le_b2 := show Hid _ from hK.2.size
  have hK := hK.alloc (B64 (bdig (two lo hi))) 26
  generalize V1.alloc (.cells (B64 (bdig (two lo hi))) 26) = V3 at *
  obtain ⟨b2, Hb2⟩ : ∃ b, Hid (V1.heap.size = b) := ⟨_, rfl⟩
  have ne_bR_b2 : Hid (bR ≠ b2) := by show _ ≠ _; rw [← Hb2.out]; exact Nat.ne_of_lt lt_bR
  have ne_bA_b2 : Hid (bA ≠ b2) := by show _ ≠ _; rw [← Hb2.out]; exact Nat.ne_of_lt lt_bA
  have le_b2 : Hid (w.heap.size ≤ b2) := by show _ ≤ _; rw [← Hb2.out]; exact le_b2.out
  rw [Hb2.out] at hK ⊢
  clear lt_bR lt_bA
  go_upto_region 3 with fail
  have lt_b2 := (hK.at b2 (B64 (bdig (two lo hi))) 26 (.head _)).lt
  have lt_bR := (hK.at bR (B32 fun _ => 0) 22 (.tail _ (.head _))).lt
  have lt_bA := (hK.at bA (B32 (bdig n)) 22 (.tail _ (.tail _ (.head _)))).lt
  have le_b4 := show Hid _ from hK.2.size
  have hK := hK.alloc (B32 fun _ => 0) 22
  generalize V3.alloc (.cells (B32 fun _ => 0) 22) = V5 at *
  obtain ⟨b4, Hb4⟩ : ∃ b, Hid (V3.heap.size = b) := ⟨_, rfl⟩
  have ne_b2_b4 : Hid (b2 ≠ b4) := by show _ ≠ _; rw [← Hb4.out]; exact Nat.ne_of_lt lt_b2
  have ne_bR_b4 : Hid (bR ≠ b4) := by show _ ≠ _; rw [← Hb4.out]; exact Nat.ne_of_lt lt_bR
  have ne_bA_b4 : Hid (bA ≠ b4) := by show _ ≠ _; rw [← Hb4.out]; exact Nat.ne_of_lt lt_bA
  have le_b4 : Hid (w.heap.size ≤ b4) := by show _ ≤ _; rw [← Hb4.out]; exact le_b4.out
  rw [Hb4.out] at hK ⊢
  clear lt_b2 lt_bR lt_bA
  refine wp_region_vals 17 (by kernel_rfl) (by kernel_rfl) (by rfl) (valSeed3 b2 b4) (fun L => Kp [(b4, if L 2 = true then B32 (bdig lo) else B32 fun _ => 0, 22), (b2, B64 (bdig (two lo hi)), 26), (bR, B32 fun _ => 0, 22), (bA, B32 (bdig n), 22)] w) hK.drew ?_ ?_
  · intro L ac wc i o hF hLi ho hd K hK
    rcases i with _ | _ | _ | i
    · have ho' := ho
      obtain rfl := Option.some.inj ho
      have f5 : ac.tmps.getD 5 undef = .pointer (some ⟨b4, 0, none⟩) := slotv hF 0 hLi 5 (by kernel_rfl)
      refine step_do ho' (wanted_free rfl) ?_
      unfold Oper.wp
      go_simp
      exact hK _ _ (.inr rfl) hF.j
    · have ho' := ho
      obtain rfl := Option.some.inj ho
      have f4 : ac.tmps.getD 4 undef = .pointer (some ⟨b2, 0, none⟩) := slotv hF 1 hLi 4 (by kernel_rfl)
      refine step_do ho' (wanted_free rfl) ?_
      unfold Oper.wp
      go_simp
      exact hK _ _ (.inr rfl) hF.j
    · have ho' := ho
      obtain rfl := Option.some.inj ho
      have f8 : ac.tmps.getD 8 undef = .slice (some ⟨b4, 0, none⟩) 32 32 := valv hF hd 0 rfl rfl (by kernel_rfl)
      have f9 : ac.tmps.getD 9 undef = .slice (some ⟨b2, 0, none⟩) 32 64 := valv hF hd 1 rfl rfl (by kernel_rfl)
      refine step_do ho' (wanted_free rfl) ?_
      have hjo := hF.j
      rw [hLi] at hjo
      have hjo : Own wc b4 (B32 fun _ => 0) 22 := hjo.at b4 (B32 fun _ => 0) 22 (.head _)
      have hrg : wc.rangeAt b2 0 (B32 (bdig lo)).toList := (B64_lo2 llo.out (hF.j.at b2 (B64 (bdig (two lo hi))) 26 (.tail _ (.head _))))
      refine wp_copy_at (.tmp 8) (.tmp 9) 23 23 rfl 5 Tryz.underlying23 infoU8s b4 0 32 32 b2 0 32 64 f8 f9 hjo _ hrg (by rw [B32_len0]; rfl) (by rw [B32_len0, B32_size]; decide) (B32_ones _) ?_
      rw [join32 lo, B32_len0]
      have hj := hF.j
      rw [hLi] at hj
      have hj : Kp [(b4, B32 fun _ => 0, 22), (b2, B64 (bdig (two lo hi)), 26), (bR, B32 fun _ => 0, 22), (bA, B32 (bdig n), 22)] w wc := hj
      have hj : Kp [(b4, B32 fun _ => 0, 22), (b2, B64 (bdig (two lo hi)), 26), (bR, B32 fun _ => 0, 22), (bA, B32 (bdig n), 22)] w wc := ((((hj.none.cons (hj.at bA (B32 (bdig n)) 22 (.tail _ (.tail _ (.tail _ (.head _)))))).cons (hj.at bR (B32 fun _ => 0) 22 (.tail _ (.tail _ (.head _))))).cons (hj.at b2 (B64 (bdig (two lo hi))) 26 (.tail _ (.head _)))).cons (hj.at b4 (B32 fun _ => 0) 22 (.head _)))
      have hj := Kp.row (A' := B32 (bdig lo)) hj (by simp only [List.forall_mem_cons, List.not_mem_nil, false_implies, implies_true, and_true]; exact ⟨ne_b2_b4.out, ne_bR_b4.out, ne_bA_b4.out⟩) le_b4.out
      exact hK _ _ (.inr rfl) ((((hj.none.cons (hj.at bA (B32 (bdig n)) 22 (.tail _ (.tail _ (.tail _ (.head _)))))).cons (hj.at bR (B32 fun _ => 0) 22 (.tail _ (.tail _ (.head _))))).cons (hj.at b2 (B64 (bdig (two lo hi))) 26 (.tail _ (.head _)))).cons (hj.at b4 (B32 (bdig lo)) 22 (.head _)))
    · cases ho
  intro L V6 hL hKq
  rw [hL 2 (by decide)] at hKq
  have hK : Kp [(b4, B32 (bdig lo), 22), (b2, B64 (bdig (two lo hi)), 26), (bR, B32 fun _ => 0, 22), (bA, B32 (bdig n), 22)] w V6 := hKq
  clear hKq hL
  simp only [putAll, valSeed3, Act.put, List.setIfInBounds_toArray, List.set_cons_succ, List.set_cons_zero]
  go_upto_region 4 with fail
  refine wp_region_told 17 (by kernel_rfl) (by kernel_rfl) (by rfl) (factSeed4 lo c b2) (fun L vs wq => Kp [(b4, B32 (bdig lo), 22), (b2, B64 (bdig (two lo hi)), 26), (bR, if L 6 = true then B32 (bdig c) else B32 fun _ => 0, 22), (bA, B32 (bdig n), 22)] w wq ∧ (L 4 = true → ∃ gr, vs 4 = .slice (some ⟨gr, 0, none⟩) 1 1 ∧ bR ≠ gr ∧ Own wq gr #[.slice (some ⟨b2, 32, none⟩) 32 32] 23) ∧ (L 5 = true → ∃ aq cq gq X, vs 5 = .slice aq 32 cq ∧ w.heap.size ≤ gq ∧ bR ≠ gq ∧ Own wq gq X 5 ∧ ∀ W, Own W gq X 5 → H.BytesV W aq 32 cq (by32 hi) ∧ (aq = none → cq = 0)) ∧ (L 7 = true → vs 7 = vs 5)) (fun _ => ⟨hK.drew, (fun h => by cases h), (fun h => by cases h), (fun h => by cases h)⟩) ?_ ?_
  · intro L vs ac wc i o hF hLi ho hd K hK
    rcases i with _ | _ | _ | _ | _ | _ | _ | _ | i
    · have ho' := ho
      obtain rfl := Option.some.inj ho
      have f5 : ac.tmps.getD 5 undef = .pointer (some ⟨b4, 0, none⟩) := slott hF 0 hLi 5 (by kernel_rfl)
      refine step_do ho' (wanted_free rfl) ?_
      exact wp_load_own 22 (.tmp 5) rfl b4 f5 (B32 (bdig lo)) _ 22 (hF.j.1.at b4 (B32 (bdig lo)) 22 (.head _)) Tryz.underlying22 rfl (B32_info _) (hK _ _ (.inr rfl) hF.j)
    · have ho' := ho
      obtain rfl := Option.some.inj ho
      have f11 : ac.tmps.getD 11 undef = .agg (B32 (bdig lo)) := (factt hF hd 0 rfl rfl (by kernel_rfl)).1.trans (factt hF hd 0 rfl rfl (by kernel_rfl)).2
      refine step_do ho' (wanted_free rfl) ?_
      unfold Oper.wp
      go_simp
      refine (key_at Hc _).mono ?_
      rintro e w' ⟨rfl, hB⟩
      exact hK _ _ (.inr rfl) ⟨hF.j.1.below hB, (fun h1 => ro_bel (hF.j.2.1 h1) hB), (fun h1 => xo_bel (hF.j.2.2.1 h1) hB), hF.j.2.2.2⟩
    · have ho' := ho
      obtain rfl := Option.some.inj ho
      have f12 : ac.tmps.getD 12 undef = .agg (numA c) := (factt hF hd 1 rfl rfl (by kernel_rfl)).1.trans (factt hF hd 1 rfl rfl (by kernel_rfl)).2
      refine step_do ho' (wanted_free rfl) ?_
      unfold Oper.wp
      go_simp
      refine (bytesOf_any c _).mono ?_
      rintro e w' ⟨rfl, hB⟩
      exact hK _ _ (.inr rfl) ⟨hF.j.1.below hB, (fun h1 => ro_bel (hF.j.2.1 h1) hB), (fun h1 => xo_bel (hF.j.2.2.1 h1) hB), hF.j.2.2.2⟩
    · have ho' := ho
      obtain rfl := Option.some.inj ho
      have f4 : ac.tmps.getD 4 undef = .pointer (some ⟨b2, 0, none⟩) := slott hF 3 hLi 4 (by kernel_rfl)
      refine step_do ho' (wanted_free rfl) ?_
      unfold Oper.wp
      go_simp
      exact hK _ _ (.inr rfl) hF.j
    · have ho' := ho
      obtain rfl := Option.some.inj ho
      have f14 : ac.tmps.getD 14 undef = .slice (some ⟨b2, 32, none⟩) 32 32 := (factt hF hd 3 rfl rfl (by kernel_rfl)).1.trans (factt hF hd 3 rfl rfl (by kernel_rfl)).2
      refine step_do ho' (wanted_free rfl) ?_
      have q14 := getq f14
      unfold Oper.wp
      go_simp
      exact hK _ _ (.inr ⟨_, rfl⟩) ⟨hF.j.1.below (alloc_below _ _), (fun _ => ⟨_, rfl, Nat.ne_of_lt (hF.j.1.at bR (if L 6 = true then B32 (bdig c) else B32 fun _ => 0) 22 (.tail _ (.tail _ (.head _)))).lt, own_new _ _ _⟩), (fun h1 => xo_bel (hF.j.2.2.1 h1) (alloc_below _ _)), hF.j.2.2.2⟩
    · have ho' := ho
      obtain rfl := Option.some.inj ho
      obtain ⟨gr, eq, _, hq⟩ := hF.j.2.1 (dep hd 4 (by kernel_rfl))
      have hq := rows_own1 hq (bytes_hi2 llo.out (hF.j.1.at b2 (B64 (bdig (two lo hi))) 26 (.tail _ (.head _)))) (fun h => by cases h)
      have f15 := (factt hF hd 4 rfl rfl (by kernel_rfl)).1
      rw [eq] at f15
      refine step_do ho' (wanted_free rfl) ?_
      have h7 : L 7 = false := notyett hF 5 hLi 7 rfl (by kernel_rfl)
      unfold Oper.wp
      go_simp
      refine (pjoin32 _ hq).mono ?_
      rintro e w' ⟨ax, cx, gx, X, rfl, h1, h2, h3, hB⟩
      have hbR := hF.j.1.at bR (if L 6 = true then B32 (bdig c) else B32 fun _ => 0) 22 (.tail _ (.tail _ (.head _)))
      exact hK _ _ (.inr trivial) ⟨hF.j.1.below hB, (fun h1 => ro_bel (hF.j.2.1 h1) hB), (fun _ => ⟨ax, cx, gx, X, rfl, Nat.le_trans hF.j.1.2.size h1, Nat.ne_of_lt (Nat.lt_of_lt_of_le hbR.lt h1), h2, h3⟩), (fun h => by have h : L 7 = true := h; rw [h7] at h; cases h)⟩
    · have ho' := ho
      obtain rfl := Option.some.inj ho
      have f2 : ac.tmps.getD 2 undef = .pointer (some ⟨bR, 0, none⟩) := slott hF 6 hLi 2 (by kernel_rfl)
      have f13 : ac.tmps.getD 13 undef = .agg (B32 (bdig c)) := (factt hF hd 2 rfl rfl (by kernel_rfl)).1.trans (factt hF hd 2 rfl rfl (by kernel_rfl)).2
      refine step_do ho' (wanted_free rfl) ?_
      have hj := hF.j.1
      rw [hLi] at hj
      have hj : Kp [(b4, B32 (bdig lo), 22), (b2, B64 (bdig (two lo hi)), 26), (bR, B32 fun _ => 0, 22), (bA, B32 (bdig n), 22)] w wc := hj
      refine wp_store_own 22 (.tmp 2) (.tmp 13) rfl bR (B32 (bdig c)) f2 f13 (hj.at bR (B32 fun _ => 0) 22 (.tail _ (.tail _ (.head _)))) (B32_sizes _ _) (B32_info _) (B32_one _) rfl ?_
      have hj : Kp [(bR, B32 fun _ => 0, 22), (b4, B32 (bdig lo), 22), (b2, B64 (bdig (two lo hi)), 26), (bA, B32 (bdig n), 22)] w wc := ((((hj.none.cons (hj.at bA (B32 (bdig n)) 22 (.tail _ (.tail _ (.tail _ (.head _)))))).cons (hj.at b2 (B64 (bdig (two lo hi))) 26 (.tail _ (.head _)))).cons (hj.at b4 (B32 (bdig lo)) 22 (.head _))).cons (hj.at bR (B32 fun _ => 0) 22 (.tail _ (.tail _ (.head _)))))
      have hj := Kp.set (A' := B32 (bdig c)) hj (by simp only [List.forall_mem_cons, List.not_mem_nil, false_implies, implies_true, and_true]; exact ⟨(Ne.symm ne_bR_b4.out), (Ne.symm ne_bR_b2.out), ne_bA_bR.out⟩) le_bR.out (B32_sizes _ _)
      exact hK undef _ (.inl rfl) ⟨((((hj.none.cons (hj.at bA (B32 (bdig n)) 22 (.tail _ (.tail _ (.tail _ (.head _)))))).cons (hj.at bR (B32 (bdig c)) 22 (.head _))).cons (hj.at b2 (B64 (bdig (two lo hi))) 26 (.tail _ (.tail _ (.head _))))).cons (hj.at b4 (B32 (bdig lo)) 22 (.tail _ (.head _)))), (fun h1 => ro_set (hF.j.2.1 h1)), (fun h1 => xo_set (hF.j.2.2.1 h1)), hF.j.2.2.2⟩
    · have ho' := ho
      obtain rfl := Option.some.inj ho
      have f16 := (factt hF hd 5 rfl rfl (by kernel_rfl)).1
      refine step_do ho' (wanted_free rfl) ?_
      unfold Oper.wp
      go_simp
      exact hK _ _ (.inr trivial) ⟨hF.j.1, hF.j.2.1, hF.j.2.2.1, (fun _ => rfl)⟩
    · cases ho
  intro L vs V9 hL hJ hf
  obtain ⟨hKq, -, hx, h7⟩ := hJ
  rw [hL 6 (by decide)] at hKq
  have hK : Kp [(b4, B32 (bdig lo), 22), (b2, B64 (bdig (two lo hi)), 26), (bR, B32 (bdig c), 22), (bA, B32 (bdig n), 22)] w V9 := hKq
  obtain ⟨aq, cq, gq, X, e5, hle, -, oX, hT⟩ := hx (hL 5 (by decide))
  have e7 := (h7 (hL 7 (by decide))).trans e5
  have e0 : vs 0 = _ := hf 0 _ _ rfl rfl
  have e1 : vs 1 = _ := hf 1 _ _ rfl rfl
  have e2 : vs 2 = _ := hf 2 _ _ rfl rfl
  have e3 : vs 3 = _ := hf 3 _ _ rfl rfl
  obtain ⟨a4, e4⟩ := hf 4 _ _ rfl rfl
  simp only [putAll, Nat.zero_add, Nat.reduceAdd, e0, e1, e2, e3, e4, e5, e7, Act.put, List.setIfInBounds_toArray, List.set_cons_succ, List.set_cons_zero]
  clear hKq hx h7 hf hL e0 e1 e2 e3 e4 e5 e7
  go_wp2_with fail
  exact bodyPost_ret (results_own_tmp Tryz.results22 _ _ bR (B32 (bdig c)) _ (by rfl) (hK.at bR (B32 (bdig c)) 22 (.tail _ (.tail _ (.head _)))) Tryz.underlying22 rfl (B32_info _)) rfl (seedR_mk rfl hT oX hle hK.2)
end Go.Proofs.YtfkcphbbabaefaaGreatDoor
