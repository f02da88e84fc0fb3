/- Of the texts SH1, SP1, SB1: what the card of this claim reaches. -/
import Derived.Test.YtfkcphbbabaefaaDoorXB25
namespace Go.Proofs.YtfkcphbbabaefaaDoor
open Go Go.RowKit
theorem upd_upd (f : Nat → Nat) (i x y : Nat) : upd (upd f i x) i y = upd f i y := by
  funext j
  by_cases h : j = i
  · subst h; rw [upd_same, upd_same]
  · rw [upd_other _ _ _ _ h, upd_other _ _ _ _ h, upd_other _ _ _ _ h]
theorem results_own2 {P : Program} {fn : Func} {p u : Tmp} {ty ty' : TypeId} (h : fn.results = #[.cell p ty, .cell u ty']) (tmps : Array Value) (w : World) (b : Nat) (A : Array Value) (b' : Nat) (A' : Array Value) (d d' : TypeDesc)
    (hp : tmps.getD p undef = .pointer (some ⟨b, 0, none⟩)) (hp' : tmps.getD u undef = .pointer (some ⟨b', 0, none⟩)) {t t' : TypeId} (ho : Own w b A t) (ho' : Own w b' A' t') (hu : P.underlying ty = some d) (hd : d.isRow = true) (hi : (P.info? ty).map (·.size) = some A.size) (hu' : P.underlying ty' = some d') (hd' : d'.isRow = true) (hi' : (P.info? ty').map (·.size) = some A'.size) :
    (results fn tmps).run P w = .ok (.tuple #[.agg A, .agg A']) w := by
  have h1 := run_loadVar_mid w b 0 ty A.toList d ho.range hu hd (by simpa using hi)
  have h2 := run_loadVar_mid w b' 0 ty' A'.toList d' ho'.range hu' hd' (by simpa using hi')
  have hp2 : tmps[p]?.getD undef = .pointer (some ⟨b, 0, none⟩) := by rw [← hp]; simp
  have hp3 : tmps[u]?.getD undef = .pointer (some ⟨b', 0, none⟩) := by rw [← hp']; simp
  simp [results, h, hp2, hp3, asAddr, h1, h2]
def valHalves (lo hi b2 : Nat) : Nat → Value
  | 0 => .slice (some ⟨b2, 0, none⟩) 32 64
  | 1 => .pointer (some ⟨b2, 0, none⟩)
  | 2 => .agg (B32 (bdig lo))
  | 3 => .slice (some ⟨b2, 32, none⟩) 32 32
  | 4 => .pointer (some ⟨b2, 32, none⟩)
  | 5 => .agg (B32 (bdig hi))
  | _ => undef
def valHalves6 (c hi : Nat) : Nat → Value
  | 0 => .agg (B32 (bdig c))
  | 1 => .agg (B32 (bdig hi))
  | _ => undef
set_option maxRecDepth 100000 in
set_option maxHeartbeats 4000000 in
theorem halves_at {T : World → Prop} (F : Low T) {n lo hi c : Nat} (Hd : Hid (dn (by32 n) = two lo hi)) (llo : Hid (lo < R256)) (Hc : Hid (clamp lo = c)) (w : World) (hT : T w) : Calls Tryd.prog 29 #[.agg (B32 (bdig n))] w fun x w' => x = .returned (.tuple #[.agg (B32 (bdig c)), .agg (B32 (bdig hi))]) ∧ Below w.heap.size w w' := by
  have hz := (zero_of_info zeroB32).1
  have hz64 := (zero_of_info zeroB64).1
  have hfl : Hid ([by32 n].flatten = by32 n) := by show _ = _; simp
  have hln : Hid ((by32 n).length ≤ 16000000) := by show _ ≤ _; rw [by32_length]; decide
  obtain ⟨x0, Hx0⟩ : ∃ x, Hid (bdig lo 0 = x) := ⟨_, rfl⟩
  obtain ⟨x31, Hx31⟩ : ∃ x, Hid (bdig lo 31 = x) := ⟨_, rfl⟩
  have lx0 : x0 < 256 := by rw [← Hx0.out]; exact bdig_lt _ _
  have lx31 : x31 < 256 := by rw [← Hx31.out]; exact bdig_lt _ _
  obtain ⟨y0, Hy0⟩ : ∃ y, Hid (x0 / 8 * 8 = y) := ⟨_, rfl⟩
  obtain ⟨y1, Hy1⟩ : ∃ y, Hid (x31 % 128 = y) := ⟨_, rfl⟩
  obtain ⟨y2, Hy2⟩ : ∃ y, Hid (x31 % 64 + 64 = y) := ⟨_, rfl⟩
  have hb0 : Hid (bits .andNot .u8 (x0 : Int) 7 = (y0 : Int)) := by show _ = _; rw [← Hy0.out]; exact low_bits ⟨x0, lx0⟩
  have hb1 : Hid (bits .andNot .u8 (x31 : Int) 128 = (y1 : Int)) := by show _ = _; rw [← Hy1.out]; exact top_off ⟨x31, lx31⟩
  have hb2 : Hid (bits .or .u8 (y1 : Int) 64 = (y2 : Int)) := by
    have := top_on ⟨x31 % 128, Nat.mod_lt _ (by decide)⟩
    show _ = _
    rw [show x31 % 128 % 64 = x31 % 64 by omega] at this
    rw [← Hy1.out, ← Hy2.out]
    exact this
  have lx0 := show Hid _ from lx0
  have lx31 := show Hid _ from lx31
  go_enter Tryd.func29, Tryd.ntmps29
  go_upto_region 1 with fail
  have hK := (((Kp.nil w).alloc (B32 (bdig n)) 22).alloc (B32 fun _ => 0) 22).alloc (B32 fun _ => 0) 22
  rw [World.size_alloc, World.size_alloc] at hK
  generalize ((w.alloc (.cells (B32 (bdig n)) 22)).alloc (.cells (B32 fun _ => 0) 22)).alloc (.cells (B32 fun _ => 0) 22) = W at *
  obtain ⟨bA, HbA⟩ : ∃ b, Hid (w.heap.size = b) := ⟨_, rfl⟩
  obtain ⟨bN, HbN⟩ : ∃ b, Hid (bA + 1 = b) := ⟨_, rfl⟩
  obtain ⟨bP, HbP⟩ : ∃ b, Hid (bN + 1 = b) := ⟨_, rfl⟩
  have le_bA : Hid (w.heap.size ≤ bA) := by show _ ≤ _; have := HbA.out; omega
  have le_bN : Hid (w.heap.size ≤ bN) := by show _ ≤ _; have := HbA.out; have := HbN.out; omega
  have le_bP : Hid (w.heap.size ≤ bP) := by show _ ≤ _; have := HbA.out; have := HbN.out; have := HbP.out; omega
  have ne_bA_bN : Hid (bA ≠ bN) := by show _ ≠ _; have := HbN.out; omega
  have ne_bA_bP : Hid (bA ≠ bP) := by show _ ≠ _; have := HbN.out; have := HbP.out; omega
  have ne_bN_bP : Hid (bN ≠ bP) := by show _ ≠ _; have := HbP.out; omega
  rw [HbA.out, HbN.out, HbP.out] at hK ⊢
  go_wp2_with fail
  have hq := rows1 (bytes_own (hK.at bA (B32 (bdig n)) 22 (.tail _ (.tail _ (.head _))))) (fun h => by cases h)
  have hK := hK.below (alloc_below W (.cells #[.slice (some ⟨bA, 0, none⟩) 32 32] 23))
  refine (F.wsumA hfl.out Hd.out hln.out _ (F.keep _ _ hT hK.2) hq).mono ?_
  rintro e V1 ⟨rfl, bw⟩
  have hK := hK.below bw
  clear bw hq
  go_upto_region 2 with (refine wpList_store_new (by rfl) 24 (.tmp 4) (.tmp 7) (by rfl) _ (B64 (bdig (two lo hi))) (by rfl) (by rfl) (B64_info _) (B64_sizes _ _) (B64_one _) (by rfl) ?_)
  have lt_bP := (hK.at bP (B32 fun _ => 0) 22 (.head _)).lt
  have lt_bN := (hK.at bN (B32 fun _ => 0) 22 (.tail _ (.head _))).lt
  have lt_bA := (hK.at bA (B32 (bdig n)) 22 (.tail _ (.tail _ (.head _)))).lt
  have le_b2 := show Hid _ from hK.2.size
  have hK := hK.alloc (B64 (bdig (two lo hi))) 24
  generalize V1.alloc (.cells (B64 (bdig (two lo hi))) 24) = V3 at *
  obtain ⟨b2, Hb2⟩ : ∃ b, Hid (V1.heap.size = b) := ⟨_, rfl⟩
  have ne_bP_b2 : Hid (bP ≠ b2) := by show _ ≠ _; rw [← Hb2.out]; exact Nat.ne_of_lt lt_bP
  have ne_bN_b2 : Hid (bN ≠ b2) := by show _ ≠ _; rw [← Hb2.out]; exact Nat.ne_of_lt lt_bN
  have ne_bA_b2 : Hid (bA ≠ b2) := by show _ ≠ _; rw [← Hb2.out]; exact Nat.ne_of_lt lt_bA
  have le_b2 : Hid (w.heap.size ≤ b2) := by show _ ≤ _; rw [← Hb2.out]; exact le_b2.out
  rw [Hb2.out] at hK ⊢
  clear lt_bP lt_bN lt_bA
  refine wp_region_vals 28 (by kernel_rfl) (by kernel_rfl) (by rfl) (valHalves lo hi b2) (fun L => Kp [(b2, B64 (bdig (two lo hi)), 24), (bP, if L 7 = true then B32 (bdig hi) else B32 fun _ => 0, 22), (bN, if L 6 = true then B32 (bdig lo) else B32 fun _ => 0, 22), (bA, B32 (bdig n), 22)] w) hK.drew ?_ ?_
  · intro L ac wc i o hF hLi ho hd K hK
    rcases i with _ | _ | _ | _ | _ | _ | _ | _ | i
    · have ho' := ho
      obtain rfl := Option.some.inj ho
      have f4 : ac.tmps.getD 4 undef = .pointer (some ⟨b2, 0, none⟩) := slotv hF 0 hLi 4 (by kernel_rfl)
      refine step_do ho' (wanted_free rfl) ?_
      unfold Oper.wp
      go_simp
      exact hK _ _ (.inr rfl) hF.j
    · have ho' := ho
      obtain rfl := Option.some.inj ho
      have f8 : ac.tmps.getD 8 undef = .slice (some ⟨b2, 0, none⟩) 32 64 := valv hF hd 0 rfl rfl (by kernel_rfl)
      refine step_do ho' (wanted_free rfl) ?_
      unfold Oper.wp
      go_simp
      exact hK _ _ (.inr rfl) hF.j
    · have ho' := ho
      obtain rfl := Option.some.inj ho
      have f9 : ac.tmps.getD 9 undef = .pointer (some ⟨b2, 0, none⟩) := valv hF hd 1 rfl rfl (by kernel_rfl)
      refine step_do ho' (wanted_free rfl) ?_
      exact wp_load_mid 22 (.tmp 9) rfl b2 0 f9 (B32 (bdig lo)).toList _ (B64_lo2 llo.out (hF.j.at b2 (B64 (bdig (two lo hi))) 24 (.head _))) Tryd.underlying22 rfl (B32_len7 _) (hK _ _ (.inr rfl) hF.j)
    · have ho' := ho
      obtain rfl := Option.some.inj ho
      have f4 : ac.tmps.getD 4 undef = .pointer (some ⟨b2, 0, none⟩) := slotv hF 3 hLi 4 (by kernel_rfl)
      refine step_do ho' (wanted_free rfl) ?_
      unfold Oper.wp
      go_simp
      exact hK _ _ (.inr rfl) hF.j
    · have ho' := ho
      obtain rfl := Option.some.inj ho
      have f11 : ac.tmps.getD 11 undef = .slice (some ⟨b2, 32, none⟩) 32 32 := valv hF hd 3 rfl rfl (by kernel_rfl)
      refine step_do ho' (wanted_free rfl) ?_
      unfold Oper.wp
      go_simp
      exact hK _ _ (.inr rfl) hF.j
    · have ho' := ho
      obtain rfl := Option.some.inj ho
      have f12 : ac.tmps.getD 12 undef = .pointer (some ⟨b2, 32, none⟩) := valv hF hd 4 rfl rfl (by kernel_rfl)
      refine step_do ho' (wanted_free rfl) ?_
      exact wp_load_mid 22 (.tmp 12) rfl b2 32 f12 (B32 (bdig hi)).toList _ (B64_hi2 llo.out (hF.j.at b2 (B64 (bdig (two lo hi))) 24 (.head _))) Tryd.underlying22 rfl (B32_len7 _) (hK _ _ (.inr rfl) hF.j)
    · have ho' := ho
      obtain rfl := Option.some.inj ho
      have f2 : ac.tmps.getD 2 undef = .pointer (some ⟨bN, 0, none⟩) := slotv hF 6 hLi 2 (by kernel_rfl)
      have f10 : ac.tmps.getD 10 undef = .agg (B32 (bdig lo)) := valv hF hd 2 rfl rfl (by kernel_rfl)
      refine step_do ho' (wanted_free rfl) ?_
      have hjo := hF.j
      rw [hLi] at hjo
      have hjo : Own wc bN (B32 fun _ => 0) 22 := hjo.at bN (B32 fun _ => 0) 22 (.tail _ (.tail _ (.head _)))
      refine wp_store_own 22 (.tmp 2) (.tmp 10) rfl bN (B32 (bdig lo)) f2 f10 hjo (B32_sizes _ _) (B32_info _) (B32_one _) rfl ?_
      have hj := hF.j
      rw [hLi] at hj
      have hj : Kp [(b2, B64 (bdig (two lo hi)), 24), (bP, if L 7 = true then B32 (bdig hi) else B32 fun _ => 0, 22), (bN, B32 fun _ => 0, 22), (bA, B32 (bdig n), 22)] w wc := hj
      have hj : Kp [(bN, B32 fun _ => 0, 22), (b2, B64 (bdig (two lo hi)), 24), (bP, if L 7 = true then B32 (bdig hi) else B32 fun _ => 0, 22), (bA, B32 (bdig n), 22)] w wc := ((((hj.none.cons (hj.at bA (B32 (bdig n)) 22 (.tail _ (.tail _ (.tail _ (.head _)))))).cons (hj.at bP (if L 7 = true then B32 (bdig hi) else B32 fun _ => 0) 22 (.tail _ (.head _)))).cons (hj.at b2 (B64 (bdig (two lo hi))) 24 (.head _))).cons (hj.at bN (B32 fun _ => 0) 22 (.tail _ (.tail _ (.head _)))))
      have hj := Kp.set (A' := B32 (bdig lo)) hj (by simp only [List.forall_mem_cons, List.not_mem_nil, false_implies, implies_true, and_true]; exact ⟨(Ne.symm ne_bN_b2.out), (Ne.symm ne_bN_bP.out), ne_bA_bN.out⟩) le_bN.out (B32_sizes _ _)
      have hj : Kp [(b2, B64 (bdig (two lo hi)), 24), (bP, if L 7 = true then B32 (bdig hi) else B32 fun _ => 0, 22), (bN, B32 (bdig lo), 22), (bA, B32 (bdig n), 22)] w _ := ((((hj.none.cons (hj.at bA (B32 (bdig n)) 22 (.tail _ (.tail _ (.tail _ (.head _)))))).cons (hj.at bN (B32 (bdig lo)) 22 (.head _))).cons (hj.at bP (if L 7 = true then B32 (bdig hi) else B32 fun _ => 0) 22 (.tail _ (.tail _ (.head _))))).cons (hj.at b2 (B64 (bdig (two lo hi))) 24 (.tail _ (.head _))))
      exact hK undef _ (.inl rfl) hj
    · have ho' := ho
      obtain rfl := Option.some.inj ho
      have f3 : ac.tmps.getD 3 undef = .pointer (some ⟨bP, 0, none⟩) := slotv hF 7 hLi 3 (by kernel_rfl)
      have f13 : ac.tmps.getD 13 undef = .agg (B32 (bdig hi)) := valv hF hd 5 rfl rfl (by kernel_rfl)
      refine step_do ho' (wanted_free rfl) ?_
      have hjo := hF.j
      rw [hLi] at hjo
      have hjo : Own wc bP (B32 fun _ => 0) 22 := hjo.at bP (B32 fun _ => 0) 22 (.tail _ (.head _))
      refine wp_store_own 22 (.tmp 3) (.tmp 13) rfl bP (B32 (bdig hi)) f3 f13 hjo (B32_sizes _ _) (B32_info _) (B32_one _) rfl ?_
      have hj := hF.j
      rw [hLi] at hj
      have hj : Kp [(b2, B64 (bdig (two lo hi)), 24), (bP, B32 fun _ => 0, 22), (bN, if L 6 = true then B32 (bdig lo) else B32 fun _ => 0, 22), (bA, B32 (bdig n), 22)] w wc := hj
      have hj : Kp [(bP, B32 fun _ => 0, 22), (b2, B64 (bdig (two lo hi)), 24), (bN, if L 6 = true then B32 (bdig lo) else B32 fun _ => 0, 22), (bA, B32 (bdig n), 22)] w wc := ((((hj.none.cons (hj.at bA (B32 (bdig n)) 22 (.tail _ (.tail _ (.tail _ (.head _)))))).cons (hj.at bN (if L 6 = true then B32 (bdig lo) else B32 fun _ => 0) 22 (.tail _ (.tail _ (.head _))))).cons (hj.at b2 (B64 (bdig (two lo hi))) 24 (.head _))).cons (hj.at bP (B32 fun _ => 0) 22 (.tail _ (.head _))))
      have hj := Kp.set (A' := B32 (bdig hi)) hj (by simp only [List.forall_mem_cons, List.not_mem_nil, false_implies, implies_true, and_true]; exact ⟨(Ne.symm ne_bP_b2.out), ne_bN_bP.out, ne_bA_bP.out⟩) le_bP.out (B32_sizes _ _)
      have hj : Kp [(b2, B64 (bdig (two lo hi)), 24), (bP, B32 (bdig hi), 22), (bN, if L 6 = true then B32 (bdig lo) else B32 fun _ => 0, 22), (bA, B32 (bdig n), 22)] w _ := ((((hj.none.cons (hj.at bA (B32 (bdig n)) 22 (.tail _ (.tail _ (.tail _ (.head _)))))).cons (hj.at bN (if L 6 = true then B32 (bdig lo) else B32 fun _ => 0) 22 (.tail _ (.tail _ (.head _))))).cons (hj.at bP (B32 (bdig hi)) 22 (.head _))).cons (hj.at b2 (B64 (bdig (two lo hi))) 24 (.tail _ (.head _))))
      exact hK undef _ (.inl rfl) hj
    · cases ho
  intro L V4 hL hKq
  rw [hL 6 (by decide)] at hKq
  rw [hL 7 (by decide)] at hKq
  have hK : Kp [(b2, B64 (bdig (two lo hi)), 24), (bP, B32 (bdig hi), 22), (bN, B32 (bdig lo), 22), (bA, B32 (bdig n), 22)] w V4 := hKq
  clear hKq hL
  simp only [putAll, valHalves, Act.put, List.setIfInBounds_toArray, List.set_cons_succ, List.set_cons_zero]
  have oN := (hK.at bN (B32 (bdig lo)) 22 (.tail _ (.tail _ (.head _))))
  have hK : Kp [(bN, B32 (bdig lo), 22), (b2, B64 (bdig (two lo hi)), 24), (bP, B32 (bdig hi), 22), (bA, B32 (bdig n), 22)] w V4 := ((((hK.none.cons (hK.at bA (B32 (bdig n)) 22 (.tail _ (.tail _ (.tail _ (.head _)))))).cons (hK.at bP (B32 (bdig hi)) 22 (.tail _ (.head _)))).cons (hK.at b2 (B64 (bdig (two lo hi))) 24 (.head _))).cons (hK.at bN (B32 (bdig lo)) 22 (.tail _ (.tail _ (.head _)))))
  have fr := fun (A : Array Value) (W : World) (i : Nat) (h : Own W bN A 22) => h.frozen i
  have cq : V4.cell? ⟨bN, 0, none⟩ = some (.int .u8 (x0 : Int)) := by have := (hK.at bN (B32 (bdig lo)) 22 (.head _)).cell (B32_at (bdig lo) 0 (by decide)); rw [Hx0.out] at this; exact this
  have fq := (hK.at bN (B32 (bdig lo)) 22 (.head _)).frozen 0
  go_upto_region 4 with fail
  rw [hb0.out]
  have hK := Kp.setCell (i := 0) (v := .int .u8 (y0 : Int)) hK (by simp only [List.forall_mem_cons, List.not_mem_nil, false_implies, implies_true, and_true]; exact ⟨(Ne.symm ne_bN_b2.out), (Ne.symm ne_bN_bP.out), ne_bA_bN.out⟩) le_bN.out
  rw [B32_set (bdig lo) 0 y0 (by decide)] at hK
  generalize V4.setCell ⟨bN, 0, none⟩ (.int .u8 (y0 : Int)) = V5 at *
  clear cq fq
  have cq : V5.cell? ⟨bN, 31, none⟩ = some (.int .u8 (x31 : Int)) := by have := (hK.at bN (B32 (upd (bdig lo) 0 y0)) 22 (.head _)).cell (B32_at (upd (bdig lo) 0 y0) 31 (by decide)); rw [upd_other _ _ _ _ (by decide), Hx31.out] at this; exact this
  have fq := (hK.at bN (B32 (upd (bdig lo) 0 y0)) 22 (.head _)).frozen 31
  go_upto_region 5 with fail
  rw [hb1.out]
  have hK := Kp.setCell (i := 31) (v := .int .u8 (y1 : Int)) hK (by simp only [List.forall_mem_cons, List.not_mem_nil, false_implies, implies_true, and_true]; exact ⟨(Ne.symm ne_bN_b2.out), (Ne.symm ne_bN_bP.out), ne_bA_bN.out⟩) le_bN.out
  rw [B32_set (upd (bdig lo) 0 y0) 31 y1 (by decide)] at hK
  generalize V5.setCell ⟨bN, 31, none⟩ (.int .u8 (y1 : Int)) = V6 at *
  clear cq fq
  have cq : V6.cell? ⟨bN, 31, none⟩ = some (.int .u8 (y1 : Int)) := by have := (hK.at bN (B32 (upd (upd (bdig lo) 0 y0) 31 y1)) 22 (.head _)).cell (B32_at (upd (upd (bdig lo) 0 y0) 31 y1) 31 (by decide)); rw [upd_same] at this; exact this
  have fq := (hK.at bN (B32 (upd (upd (bdig lo) 0 y0) 31 y1)) 22 (.head _)).frozen 31
  go_upto_region 6 with fail
  rw [hb2.out]
  have hK := Kp.setCell (i := 31) (v := .int .u8 (y2 : Int)) hK (by simp only [List.forall_mem_cons, List.not_mem_nil, false_implies, implies_true, and_true]; exact ⟨(Ne.symm ne_bN_b2.out), (Ne.symm ne_bN_bP.out), ne_bA_bN.out⟩) le_bN.out
  rw [B32_set (upd (upd (bdig lo) 0 y0) 31 y1) 31 y2 (by decide)] at hK
  generalize V6.setCell ⟨bN, 31, none⟩ (.int .u8 (y2 : Int)) = V7 at *
  clear cq fq
  rw [show B32 (upd (upd (upd (bdig lo) 0 y0) 31 y1) 31 y2) = B32 (bdig c) by rw [upd_upd, ← Hy0.out, ← Hy2.out, ← Hx0.out, ← Hx31.out, B32_clamp, Hc.out]] at hK
  refine wp_region_vals 28 (by kernel_rfl) (by kernel_rfl) (by rfl) (valHalves6 c hi) (fun L => Kp [(bN, if L 2 = true then B32 (bdig c) else B32 (bdig c), 22), (b2, B64 (bdig (two lo hi)), 24), (bP, if L 3 = true then B32 (bdig hi) else B32 (bdig hi), 22), (bA, B32 (bdig n), 22)] w) hK.drew ?_ ?_
  · intro L ac wc i o hF hLi ho hd K hK
    rcases i with _ | _ | _ | _ | i
    · have ho' := ho
      obtain rfl := Option.some.inj ho
      have f2 : ac.tmps.getD 2 undef = .pointer (some ⟨bN, 0, none⟩) := slotv hF 0 hLi 2 (by kernel_rfl)
      refine step_do ho' (wanted_free rfl) ?_
      have hny2 := notyet hF 0 hLi 2 rfl (by kernel_rfl)
      have hj := hF.j
      rw [hny2] at hj
      have hj : Own wc bN (B32 (bdig c)) 22 := hj.at bN (B32 (bdig c)) 22 (.head _)
      exact wp_load_own 22 (.tmp 2) rfl bN f2 (B32 (bdig c)) _ 22 hj Tryd.underlying22 rfl (B32_info _) (hK _ _ (.inr rfl) hF.j)
    · have ho' := ho
      obtain rfl := Option.some.inj ho
      have f3 : ac.tmps.getD 3 undef = .pointer (some ⟨bP, 0, none⟩) := slotv hF 1 hLi 3 (by kernel_rfl)
      refine step_do ho' (wanted_free rfl) ?_
      have hny3 := notyet hF 1 hLi 3 rfl (by kernel_rfl)
      have hj := hF.j
      rw [hny3] at hj
      have hj : Own wc bP (B32 (bdig hi)) 22 := hj.at bP (B32 (bdig hi)) 22 (.tail _ (.tail _ (.head _)))
      exact wp_load_own 22 (.tmp 3) rfl bP f3 (B32 (bdig hi)) _ 22 hj Tryd.underlying22 rfl (B32_info _) (hK _ _ (.inr rfl) hF.j)
    · have ho' := ho
      obtain rfl := Option.some.inj ho
      have f2 : ac.tmps.getD 2 undef = .pointer (some ⟨bN, 0, none⟩) := slotv hF 2 hLi 2 (by kernel_rfl)
      have f26 : ac.tmps.getD 26 undef = .agg (B32 (bdig c)) := valv hF hd 0 rfl rfl (by kernel_rfl)
      refine step_do ho' (wanted_free rfl) ?_
      have hjo := hF.j
      rw [hLi] at hjo
      have hjo : Own wc bN (B32 (bdig c)) 22 := hjo.at bN (B32 (bdig c)) 22 (.head _)
      refine wp_store_own 22 (.tmp 2) (.tmp 26) rfl bN (B32 (bdig c)) f2 f26 hjo (B32_sizes _ _) (B32_info _) (B32_one _) rfl ?_
      have hj := hF.j
      rw [hLi] at hj
      have hj : Kp [(bN, B32 (bdig c), 22), (b2, B64 (bdig (two lo hi)), 24), (bP, if L 3 = true then B32 (bdig hi) else B32 (bdig hi), 22), (bA, B32 (bdig n), 22)] w wc := hj
      have hj : Kp [(bN, B32 (bdig c), 22), (b2, B64 (bdig (two lo hi)), 24), (bP, if L 3 = true then B32 (bdig hi) else B32 (bdig hi), 22), (bA, B32 (bdig n), 22)] w wc := ((((hj.none.cons (hj.at bA (B32 (bdig n)) 22 (.tail _ (.tail _ (.tail _ (.head _)))))).cons (hj.at bP (if L 3 = true then B32 (bdig hi) else B32 (bdig hi)) 22 (.tail _ (.tail _ (.head _))))).cons (hj.at b2 (B64 (bdig (two lo hi))) 24 (.tail _ (.head _)))).cons (hj.at bN (B32 (bdig c)) 22 (.head _)))
      have hj := Kp.set (A' := B32 (bdig c)) hj (by simp only [List.forall_mem_cons, List.not_mem_nil, false_implies, implies_true, and_true]; exact ⟨(Ne.symm ne_bN_b2.out), (Ne.symm ne_bN_bP.out), ne_bA_bN.out⟩) le_bN.out (B32_sizes _ _)
      have hj : Kp [(bN, B32 (bdig c), 22), (b2, B64 (bdig (two lo hi)), 24), (bP, if L 3 = true then B32 (bdig hi) else B32 (bdig hi), 22), (bA, B32 (bdig n), 22)] w _ := ((((hj.none.cons (hj.at bA (B32 (bdig n)) 22 (.tail _ (.tail _ (.tail _ (.head _)))))).cons (hj.at bP (if L 3 = true then B32 (bdig hi) else B32 (bdig hi)) 22 (.tail _ (.tail _ (.head _))))).cons (hj.at b2 (B64 (bdig (two lo hi))) 24 (.tail _ (.head _)))).cons (hj.at bN (B32 (bdig c)) 22 (.head _)))
      exact hK undef _ (.inl rfl) hj
    · have ho' := ho
      obtain rfl := Option.some.inj ho
      have f3 : ac.tmps.getD 3 undef = .pointer (some ⟨bP, 0, none⟩) := slotv hF 3 hLi 3 (by kernel_rfl)
      have f27 : ac.tmps.getD 27 undef = .agg (B32 (bdig hi)) := valv hF hd 1 rfl rfl (by kernel_rfl)
      refine step_do ho' (wanted_free rfl) ?_
      have hjo := hF.j
      rw [hLi] at hjo
      have hjo : Own wc bP (B32 (bdig hi)) 22 := hjo.at bP (B32 (bdig hi)) 22 (.tail _ (.tail _ (.head _)))
      refine wp_store_own 22 (.tmp 3) (.tmp 27) rfl bP (B32 (bdig hi)) f3 f27 hjo (B32_sizes _ _) (B32_info _) (B32_one _) rfl ?_
      have hj := hF.j
      rw [hLi] at hj
      have hj : Kp [(bN, if L 2 = true then B32 (bdig c) else B32 (bdig c), 22), (b2, B64 (bdig (two lo hi)), 24), (bP, B32 (bdig hi), 22), (bA, B32 (bdig n), 22)] w wc := hj
      have hj : Kp [(bP, B32 (bdig hi), 22), (bN, if L 2 = true then B32 (bdig c) else B32 (bdig c), 22), (b2, B64 (bdig (two lo hi)), 24), (bA, B32 (bdig n), 22)] w wc := ((((hj.none.cons (hj.at bA (B32 (bdig n)) 22 (.tail _ (.tail _ (.tail _ (.head _)))))).cons (hj.at b2 (B64 (bdig (two lo hi))) 24 (.tail _ (.head _)))).cons (hj.at bN (if L 2 = true then B32 (bdig c) else B32 (bdig c)) 22 (.head _))).cons (hj.at bP (B32 (bdig hi)) 22 (.tail _ (.tail _ (.head _)))))
      have hj := Kp.set (A' := B32 (bdig hi)) hj (by simp only [List.forall_mem_cons, List.not_mem_nil, false_implies, implies_true, and_true]; exact ⟨ne_bN_bP.out, (Ne.symm ne_bP_b2.out), ne_bA_bP.out⟩) le_bP.out (B32_sizes _ _)
      have hj : Kp [(bN, if L 2 = true then B32 (bdig c) else B32 (bdig c), 22), (b2, B64 (bdig (two lo hi)), 24), (bP, B32 (bdig hi), 22), (bA, B32 (bdig n), 22)] w _ := ((((hj.none.cons (hj.at bA (B32 (bdig n)) 22 (.tail _ (.tail _ (.tail _ (.head _)))))).cons (hj.at bP (B32 (bdig hi)) 22 (.head _))).cons (hj.at b2 (B64 (bdig (two lo hi))) 24 (.tail _ (.tail _ (.head _))))).cons (hj.at bN (if L 2 = true then B32 (bdig c) else B32 (bdig c)) 22 (.tail _ (.head _))))
      exact hK undef _ (.inl rfl) hj
    · cases ho
  intro L V8 hL hKq
  rw [hL 2 (by decide)] at hKq
  rw [hL 3 (by decide)] at hKq
  have hK : Kp [(bN, B32 (bdig c), 22), (b2, B64 (bdig (two lo hi)), 24), (bP, B32 (bdig hi), 22), (bA, B32 (bdig n), 22)] w V8 := hKq
  clear hKq hL
  simp only [putAll, valHalves6, Act.put, List.setIfInBounds_toArray, List.set_cons_succ, List.set_cons_zero]
  go_wp2_with fail
  exact bodyPost_ret (results_own2 Tryd.results29 _ _ bN (B32 (bdig c)) bP (B32 (bdig hi)) _ _ (by rfl) (by rfl) (hK.at bN (B32 (bdig c)) 22 (.head _)) (hK.at bP (B32 (bdig hi)) 22 (.tail _ (.tail _ (.head _)))) Tryd.underlying22 rfl (B32_info _) Tryd.underlying22 rfl (B32_info _)) rfl ⟨rfl, hK.2⟩
end Go.Proofs.YtfkcphbbabaefaaDoor
namespace Go.Proofs.YtfkcphbbabaefaaDoor
open Go Go.RowKit
set_option maxRecDepth 100000 in
set_option maxHeartbeats 4000000 in
theorem public_at {T : World → Prop} (F : Low T) {n lo hi c y : Nat} (Hd : Hid (dn (by32 n) = two lo hi)) (llo : Hid (lo < R256)) (Hc : Hid (clamp lo = c)) (Hy : Hid (enc (Pt.times c BP) = y)) (w : World) (hT : T w) : Calls Tryd.prog 11 #[.agg (B32 (bdig n))] w fun x w' => x = .returned (.agg (B32 (bdig y))) ∧ Below w.heap.size w w' := by
  have hz := (zero_of_info zeroB32).1
  have lc : Hid (c < R256) := by show _ < _; rw [← Hc.out]; exact clamp_lt _
  go_enter Tryd.func11, Tryd.ntmps11
  go_upto_region 1 with fail
  have hK := ((Kp.nil w).alloc (B32 (bdig n)) 22).alloc (B32 fun _ => 0) 22
  rw [World.size_alloc] at hK
  generalize (w.alloc (.cells (B32 (bdig n)) 22)).alloc (.cells (B32 fun _ => 0) 22) = W at *
  obtain ⟨bA, HbA⟩ : ∃ b, Hid (w.heap.size = b) := ⟨_, rfl⟩
  obtain ⟨bR, HbR⟩ : ∃ b, Hid (bA + 1 = b) := ⟨_, rfl⟩
  have le_bA : Hid (w.heap.size ≤ bA) := by show _ ≤ _; have := HbA.out; omega
  have le_bR : Hid (w.heap.size ≤ bR) := by show _ ≤ _; have := HbA.out; have := HbR.out; omega
  have ne_bA_bR : Hid (bA ≠ bR) := by show _ ≠ _; have := HbR.out; omega
  rw [HbA.out, HbR.out] at hK ⊢
  go_wp2_with (refine wpList_load_own (by rfl) 22 (.tmp 1) (by rfl) bA (by rfl) (B32 (bdig n)) _ (hK.at bA (B32 (bdig n)) 22 (.tail _ (.head _))) Tryd.underlying22 (by rfl) (B32_info _) ?_)
  refine (halves_at F Hd llo Hc _ (F.keep _ _ hT hK.2)).mono ?_
  rintro e V1 ⟨rfl, bw⟩
  have hK := hK.below bw
  clear bw
  go_upto_region 2 with ((refine wpList_news2 hK 22 22 3 4 8 9 (by rfl) (by rfl) (by rfl) (by rfl) (by rfl) (by rfl) (by rfl) (by rfl) (by rfl) (by rfl) (by rfl) (by rfl) hz hz (of_decide_eq_true (by rfl)) (of_decide_eq_true (by rfl)) (by decide) (by decide) (by decide) (by decide) (by decide) (by rfl) (by rfl) (B32_sizes _ _) (B32_sizes _ _) (B32_info _) (B32_info _) (B32_one _) (B32_one _) ?_; intro b2 b3 V4 le_b2 le_b3 ne_b2_b3 ap1 ap2 hK))
  have le_b2 := show Hid _ from le_b2
  have le_b3 := show Hid _ from le_b3
  have ne_b2_b3 := show Hid _ from ne_b2_b3
  have ne_bR_b2 : Hid (bR ≠ b2) := ap1 (bR, B32 fun _ => 0, 22) (.head _)
  have ne_bR_b3 : Hid (bR ≠ b3) := ap2 (bR, B32 fun _ => 0, 22) (.head _)
  have ne_bA_b2 : Hid (bA ≠ b2) := ap1 (bA, B32 (bdig n), 22) (.tail _ (.head _))
  have ne_bA_b3 : Hid (bA ≠ b3) := ap2 (bA, B32 (bdig n), 22) (.tail _ (.head _))
  clear ap1 ap2
  go_wp2_with (refine wpList_load_own (by rfl) 22 (.tmp 3) (by rfl) b2 (by rfl) (B32 (bdig c)) _ (hK.at b2 (B32 (bdig c)) 22 (.tail _ (.head _))) Tryd.underlying22 (by rfl) (B32_info _) ?_)
  refine (F.baseA lc.out Hy.out _ (F.keep _ _ hT hK.2)).mono ?_
  rintro e V5 ⟨rfl, bw⟩
  have hK := hK.below bw
  clear bw
  go_wp2_with (refine wpList_store_own (op := { dst := none, op := _, type := _, pos := _, after := _, guard := _ }) rfl 22 (.tmp 2) (.tmp 11) rfl bR 0 (B32 (bdig y)) (by rfl) (by rfl) (hK.at bR (B32 fun _ => 0) 22 (.tail _ (.tail _ (.head _)))) (B32_le _ _) (B32_info _) (B32_one _) (by rfl) ?_)
  exact bodyPost_ret (results_own Tryd.results11 _ _ bR (B32 (bdig y)) _ (by rfl) (own_setCells (hK.at bR (B32 fun _ => 0) 22 (.tail _ (.tail _ (.head _)))) (B32_sizes _ _)) Tryd.underlying22 rfl (B32_info _)) rfl ⟨rfl, Below.setCells _ _ _ _ le_bR.out hK.2⟩
end Go.Proofs.YtfkcphbbabaefaaDoor
namespace Go.Proofs.YtfkcphbbabaefaaDoor
open Go Go.RowKit
def factBound (z k bA bB : Nat) (ta : Option Addr) (tc : Nat) (m : List Int) : Nat → Value → Prop
  | 0, vq => vq = .slice (some ⟨bA, 0, none⟩) 32 32
  | 1, vq => vq = .slice (some ⟨bB, 0, none⟩) 32 32
  | 2, vq => vq = .slice ta m.length tc
  | 4, vq => vq = .agg (B64 (bdig z))
  | 5, vq => vq = .agg (B32 (bdig k))
  | 3, vq => ∃ aq, vq = .slice aq 3 3
  | _, _ => True
set_option maxRecDepth 100000 in
set_option maxHeartbeats 4000000 in
theorem bound_at {T : World → Prop} (F : Low T) {p q k : Nat} {ta : Option Addr} {tc : Nat} {m : List Int} (Hk : Hid (dn (by32 p ++ (by32 q ++ m)) % LL = k)) (hl : m.length ≤ 1000) (w : World) (hT : T w) (hm : Txt w ta tc m) : Calls Tryd.prog 22 #[.agg (B32 (bdig p)), .agg (B32 (bdig q)), .slice ta m.length tc] w fun x w' => x = .returned (.agg (B32 (bdig k))) ∧ Below w.heap.size w w' := by
  have hz := (zero_of_info zeroB32).1
  obtain ⟨z, Hz⟩ : ∃ z, Hid (dn (by32 p ++ (by32 q ++ m)) = z) := ⟨_, rfl⟩
  have hzl : z < R512 := by rw [← Hz.out]; exact dn_lt _
  have hzk : z % LL = k := by rw [← Hz.out]; exact Hk.out
  have hfl : [by32 p, by32 q, m].flatten = by32 p ++ (by32 q ++ m) := by simp
  have hln : (by32 p ++ (by32 q ++ m)).length ≤ 16000000 := by rw [List.length_append, List.length_append, by32_length, by32_length]; omega
  have hzl := show Hid _ from hzl
  have hzk := show Hid _ from hzk
  have hfl := show Hid _ from hfl
  have hln := show Hid _ from hln
  go_enter Tryd.func22, Tryd.ntmps22
  go_upto_region 1 with fail
  have hK := (((Kp.nil w).alloc (B32 (bdig p)) 22).alloc (B32 (bdig q)) 22).alloc (B32 fun _ => 0) 22
  rw [World.size_alloc, World.size_alloc] at hK
  generalize ((w.alloc (.cells (B32 (bdig p)) 22)).alloc (.cells (B32 (bdig q)) 22)).alloc (.cells (B32 fun _ => 0) 22) = W at *
  obtain ⟨bA, HbA⟩ : ∃ b, Hid (w.heap.size = b) := ⟨_, rfl⟩
  obtain ⟨bB, HbB⟩ : ∃ b, Hid (bA + 1 = b) := ⟨_, rfl⟩
  obtain ⟨bR, HbR⟩ : ∃ b, Hid (bB + 1 = b) := ⟨_, rfl⟩
  have le_bA : Hid (w.heap.size ≤ bA) := by show _ ≤ _; have := HbA.out; omega
  have le_bB : Hid (w.heap.size ≤ bB) := by show _ ≤ _; have := HbA.out; have := HbB.out; omega
  have le_bR : Hid (w.heap.size ≤ bR) := by show _ ≤ _; have := HbA.out; have := HbB.out; have := HbR.out; omega
  have ne_bA_bB : Hid (bA ≠ bB) := by show _ ≠ _; have := HbB.out; omega
  have ne_bA_bR : Hid (bA ≠ bR) := by show _ ≠ _; have := HbB.out; have := HbR.out; omega
  have ne_bB_bR : Hid (bB ≠ bR) := by show _ ≠ _; have := HbR.out; omega
  rw [HbA.out, HbB.out, HbR.out] at hK ⊢
  refine wp_region_told 13 (by kernel_rfl) (by kernel_rfl) (by rfl) (factBound z k bA bB ta tc m) (fun L vs wq => Kp [(bR, if L 6 = true then B32 (bdig k) else B32 fun _ => 0, 22), (bB, B32 (bdig q), 22), (bA, B32 (bdig p), 22)] w wq ∧ (L 3 = true → L 4 = false → ∃ aq, vs 3 = .slice aq 3 3 ∧ H.RowsV wq aq 3 3 [by32 p, by32 q, m])) (fun _ => ⟨hK.drew, fun h => by cases h⟩) ?_ ?_
  · intro L vs ac wc i o hF hLi ho hd K hK
    rcases i with _ | _ | _ | _ | _ | _ | _ | i
    · have ho' := ho
      obtain rfl := Option.some.inj ho
      have f3 : ac.tmps.getD 3 undef = .pointer (some ⟨bA, 0, none⟩) := slott hF 0 hLi 3 (by kernel_rfl)
      refine step_do ho' (wanted_free rfl) ?_
      unfold Oper.wp
      go_simp
      exact hK _ _ (.inr rfl) ⟨hF.j.1, hF.j.2⟩
    · have ho' := ho
      obtain rfl := Option.some.inj ho
      have f4 : ac.tmps.getD 4 undef = .pointer (some ⟨bB, 0, none⟩) := slott hF 1 hLi 4 (by kernel_rfl)
      refine step_do ho' (wanted_free rfl) ?_
      unfold Oper.wp
      go_simp
      exact hK _ _ (.inr rfl) ⟨hF.j.1, hF.j.2⟩
    · have ho' := ho
      obtain rfl := Option.some.inj ho
      have f2 : ac.tmps.getD 2 undef = .slice ta m.length tc := slott hF 2 hLi 2 (by kernel_rfl)
      refine step_do ho' (wanted_free rfl) ?_
      unfold Oper.wp
      go_simp
      exact hK _ _ (.inr rfl) ⟨hF.j.1, hF.j.2⟩
    · have ho' := ho
      obtain rfl := Option.some.inj ho
      have f7 : ac.tmps.getD 7 undef = .slice (some ⟨bA, 0, none⟩) 32 32 := (factt hF hd 0 rfl rfl (by kernel_rfl)).1.trans (factt hF hd 0 rfl rfl (by kernel_rfl)).2
      have f8 : ac.tmps.getD 8 undef = .slice (some ⟨bB, 0, none⟩) 32 32 := (factt hF hd 1 rfl rfl (by kernel_rfl)).1.trans (factt hF hd 1 rfl rfl (by kernel_rfl)).2
      have f9 : ac.tmps.getD 9 undef = .slice ta m.length tc := (factt hF hd 2 rfl rfl (by kernel_rfl)).1.trans (factt hF hd 2 rfl rfl (by kernel_rfl)).2
      refine step_do ho' (wanted_free rfl) ?_
      have q7 := getq f7
      have q8 := getq f8
      have q9 := getq f9
      unfold Oper.wp
      go_simp
      exact hK _ _ (.inr ⟨_, rfl⟩) ⟨(hF.j.1).below (alloc_below _ _), fun _ _ => ⟨_, rfl, rows3 (bytes_own (hF.j.1.at bA (B32 (bdig p)) 22 (.tail _ (.tail _ (.head _))))) (fun h => by cases h) (bytes_own (hF.j.1.at bB (B32 (bdig q)) 22 (.tail _ (.head _)))) (fun h => by cases h) ((hm.below hF.j.1.2).1) hm.2⟩⟩
    · have ho' := ho
      obtain rfl := Option.some.inj ho
      refine step_do ho' (wanted_free rfl) ?_
      obtain ⟨aq, eq, hq⟩ := hF.j.2 (dep hd 3 (by kernel_rfl)) hLi
      have f10 := (factt hF hd 3 rfl rfl (by kernel_rfl)).1
      rw [eq] at f10
      unfold Oper.wp
      go_simp
      refine (F.wsumA hfl.out Hz.out hln.out _ (F.keep _ _ hT hF.j.1.2) hq).mono ?_
      rintro e w' ⟨rfl, hB⟩
      exact hK _ _ (.inr rfl) ⟨(hF.j.1).below hB, fun _ h => by cases h⟩
    · have ho' := ho
      obtain rfl := Option.some.inj ho
      have f11 : ac.tmps.getD 11 undef = .agg (B64 (bdig z)) := (factt hF hd 4 rfl rfl (by kernel_rfl)).1.trans (factt hF hd 4 rfl rfl (by kernel_rfl)).2
      refine step_do ho' (wanted_free rfl) ?_
      unfold Oper.wp
      go_simp
      refine (F.swideA hzl.out hzk.out _ (F.keep _ _ hT hF.j.1.2)).mono ?_
      rintro e w' ⟨rfl, hB⟩
      exact hK _ _ (.inr rfl) ⟨(hF.j.1).below hB, fun h1 h2 => rows_bel (hF.j.2 h1 h2) hB⟩
    · have ho' := ho
      obtain rfl := Option.some.inj ho
      have f6 : ac.tmps.getD 6 undef = .pointer (some ⟨bR, 0, none⟩) := slott hF 6 hLi 6 (by kernel_rfl)
      have f12 : ac.tmps.getD 12 undef = .agg (B32 (bdig k)) := (factt hF hd 5 rfl rfl (by kernel_rfl)).1.trans (factt hF hd 5 rfl rfl (by kernel_rfl)).2
      refine step_do ho' (wanted_free rfl) ?_
      have hq5 := dep hd 5 (by kernel_rfl)
      have hq4 := dept hF 5 rfl hq5 4 (by kernel_rfl)
      have hjo := hF.j.1
      rw [hLi] at hjo
      have hjo : Own wc bR (B32 fun _ => 0) 22 := hjo.at bR (B32 fun _ => 0) 22 (.head _)
      refine wp_store_own 22 (.tmp 6) (.tmp 12) rfl bR (B32 (bdig k)) f6 f12 hjo (B32_sizes _ _) (B32_info _) (B32_one _) rfl ?_
      have hj := hF.j.1
      rw [hLi] at hj
      have hj : Kp [(bR, B32 fun _ => 0, 22), (bB, B32 (bdig q), 22), (bA, B32 (bdig p), 22)] w wc := hj
      have hj : Kp [(bR, B32 fun _ => 0, 22), (bB, B32 (bdig q), 22), (bA, B32 (bdig p), 22)] w wc := (((hj.none.cons (hj.at bA (B32 (bdig p)) 22 (.tail _ (.tail _ (.head _))))).cons (hj.at bB (B32 (bdig q)) 22 (.tail _ (.head _)))).cons (hj.at bR (B32 fun _ => 0) 22 (.head _)))
      have hj := Kp.set (A' := B32 (bdig k)) hj (by simp only [List.forall_mem_cons, List.not_mem_nil, false_implies, implies_true, and_true]; exact ⟨ne_bB_bR.out, ne_bA_bR.out⟩) le_bR.out (B32_sizes _ _)
      exact hK undef _ (.inl rfl) ⟨(((hj.none.cons (hj.at bA (B32 (bdig p)) 22 (.tail _ (.tail _ (.head _))))).cons (hj.at bB (B32 (bdig q)) 22 (.tail _ (.head _)))).cons (hj.at bR (B32 (bdig k)) 22 (.head _))), fun _ h => by have h : L 4 = false := h; rw [hq4] at h; cases h⟩
    · cases ho
  intro L vs V1 hL hKq hf
  have hKq := hKq.1
  rw [hL 6 (by decide)] at hKq
  have hK : Kp [(bR, B32 (bdig k), 22), (bB, B32 (bdig q), 22), (bA, B32 (bdig p), 22)] w V1 := hKq
  have e0 : vs 0 = _ := hf 0 _ _ rfl rfl
  have e1 : vs 1 = _ := hf 1 _ _ rfl rfl
  have e2 : vs 2 = _ := hf 2 _ _ rfl rfl
  have e4 : vs 4 = _ := hf 4 _ _ rfl rfl
  have e5 : vs 5 = _ := hf 5 _ _ rfl rfl
  obtain ⟨aq3, eb3⟩ := hf 3 _ _ rfl rfl
  simp only [putAll, Nat.zero_add, Nat.reduceAdd, e0, e1, e2, e4, e5, eb3, Act.put, List.setIfInBounds_toArray, List.set_cons_succ, List.set_cons_zero]
  clear hKq hL hf e0 e1 e2 e4 e5 eb3
  go_wp2_with fail
  exact bodyPost_ret (results_own Tryd.results22 _ _ bR (B32 (bdig k)) _ (by rfl) (hK.at bR (B32 (bdig k)) 22 (.head _)) Tryd.underlying22 rfl (B32_info _)) rfl ⟨rfl, hK.2⟩
end Go.Proofs.YtfkcphbbabaefaaDoor
