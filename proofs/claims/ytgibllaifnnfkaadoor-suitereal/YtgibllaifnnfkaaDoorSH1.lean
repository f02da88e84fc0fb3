/- A seed's number and prefix. -/
import Derived.Test.YtgibllaifnnfkaaDoorSG1
import Derived.Test.YtgibllaifnnfkaaDoorRG
namespace Go.Proofs.YtgibllaifnnfkaaDoor
open Go Go.RowKit
theorem upd_upd (f : Nat → Nat) (i x y : Nat) : upd (upd f i x) i y = upd f i y := by
  funext j
  by_cases h : j = i
  · subst h; rw [upd_same, upd_same]
  · rw [upd_other _ _ _ _ h, upd_other _ _ _ _ h, upd_other _ _ _ _ h]
theorem results_own2 {P : Program} {fn : Func} {p u : Tmp} {ty ty' : TypeId} (h : fn.results = #[.cell p ty, .cell u ty']) (tmps : Array Value) (w : World) (b : Nat) (A : Array Value) (b' : Nat) (A' : Array Value) (d d' : TypeDesc)
    (hp : tmps.getD p undef = .pointer (some ⟨b, 0, none⟩)) (hp' : tmps.getD u undef = .pointer (some ⟨b', 0, none⟩)) {t t' : TypeId} (ho : Own w b A t) (ho' : Own w b' A' t') (hu : P.underlying ty = some d) (hd : d.isRow = true) (hi : (P.info? ty).map (·.size) = some A.size) (hu' : P.underlying ty' = some d') (hd' : d'.isRow = true) (hi' : (P.info? ty').map (·.size) = some A'.size) :
    (results fn tmps).run P w = .ok (.tuple #[.agg A, .agg A']) w := by
  have h1 := run_loadVar_mid w b 0 ty A.toList d ho.range hu hd (by simpa using hi)
  have h2 := run_loadVar_mid w b' 0 ty' A'.toList d' ho'.range hu' hd' (by simpa using hi')
  have hp2 : tmps[p]?.getD undef = .pointer (some ⟨b, 0, none⟩) := by rw [← hp]; simp
  have hp3 : tmps[u]?.getD undef = .pointer (some ⟨b', 0, none⟩) := by rw [← hp']; simp
  simp [results, h, hp2, hp3, asAddr, h1, h2]
set_option maxRecDepth 100000 in
set_option maxHeartbeats 4000000 in
theorem halves_at {T : World → Prop} (F : Low T) {n lo hi c : Nat} (Hd : Hid (dn (by32 n) = two lo hi)) (llo : Hid (lo < R256)) (Hc : Hid (clamp lo = c)) (w : World) (hT : T w) : Calls Tryd.prog 16 #[.agg (B32 (bdig n))] w fun x w' => x = .returned (.tuple #[.agg (B32 (bdig c)), .agg (B32 (bdig hi))]) ∧ Below w.heap.size w w' := by
  have hz := (zero_of_info zeroB32).1
  have hz64 := (zero_of_info zeroB64).1
  have hfl : Hid ([by32 n].flatten = by32 n) := by show _ = _; simp
  have hln : Hid ((by32 n).length ≤ 16000000) := by show _ ≤ _; rw [by32_length]; decide
  obtain ⟨x0, Hx0⟩ : ∃ x, Hid (bdig lo 0 = x) := ⟨_, rfl⟩
  obtain ⟨x31, Hx31⟩ : ∃ x, Hid (bdig lo 31 = x) := ⟨_, rfl⟩
  have lx0 : x0 < 256 := by rw [← Hx0.out]; exact bdig_lt _ _
  have lx31 : x31 < 256 := by rw [← Hx31.out]; exact bdig_lt _ _
  obtain ⟨y0, Hy0⟩ : ∃ y, Hid (x0 / 8 * 8 = y) := ⟨_, rfl⟩
  obtain ⟨y1, Hy1⟩ : ∃ y, Hid (x31 % 128 = y) := ⟨_, rfl⟩
  obtain ⟨y2, Hy2⟩ : ∃ y, Hid (x31 % 64 + 64 = y) := ⟨_, rfl⟩
  have hb0 : Hid (bits .andNot .u8 (x0 : Int) 7 = (y0 : Int)) := by show _ = _; rw [← Hy0.out]; exact low_bits ⟨x0, lx0⟩
  have hb1 : Hid (bits .andNot .u8 (x31 : Int) 128 = (y1 : Int)) := by show _ = _; rw [← Hy1.out]; exact top_off ⟨x31, lx31⟩
  have hb2 : Hid (bits .or .u8 (y1 : Int) 64 = (y2 : Int)) := by
    have := top_on ⟨x31 % 128, Nat.mod_lt _ (by decide)⟩
    show _ = _
    rw [show x31 % 128 % 64 = x31 % 64 by omega] at this
    rw [← Hy1.out, ← Hy2.out]
    exact this
  have lx0 := show Hid _ from lx0
  have lx31 := show Hid _ from lx31
  go_enter Tryd.func16, Tryd.ntmps16
  go_upto_region 1 with fail
  have hK := (((Kp.nil w).alloc (B32 (bdig n)) 22).alloc (B32 fun _ => 0) 22).alloc (B32 fun _ => 0) 22
  rw [World.size_alloc, World.size_alloc] at hK
  generalize ((w.alloc (.cells (B32 (bdig n)) 22)).alloc (.cells (B32 fun _ => 0) 22)).alloc (.cells (B32 fun _ => 0) 22) = W at *
  obtain ⟨bA, HbA⟩ : ∃ b, Hid (w.heap.size = b) := ⟨_, rfl⟩
  obtain ⟨bN, HbN⟩ : ∃ b, Hid (bA + 1 = b) := ⟨_, rfl⟩
  obtain ⟨bP, HbP⟩ : ∃ b, Hid (bN + 1 = b) := ⟨_, rfl⟩
  have le_bA : Hid (w.heap.size ≤ bA) := by show _ ≤ _; have := HbA.out; omega
  have le_bN : Hid (w.heap.size ≤ bN) := by show _ ≤ _; have := HbA.out; have := HbN.out; omega
  have le_bP : Hid (w.heap.size ≤ bP) := by show _ ≤ _; have := HbA.out; have := HbN.out; have := HbP.out; omega
  have ne_bA_bN : Hid (bA ≠ bN) := by show _ ≠ _; have := HbN.out; omega
  have ne_bA_bP : Hid (bA ≠ bP) := by show _ ≠ _; have := HbN.out; have := HbP.out; omega
  have ne_bN_bP : Hid (bN ≠ bP) := by show _ ≠ _; have := HbP.out; omega
  rw [HbA.out, HbN.out, HbP.out] at hK ⊢
  go_wp2_with fail
  have hq := rows1 (bytes_own (hK.at bA (B32 (bdig n)) 22 (.tail _ (.tail _ (.head _))))) (fun h => by cases h)
  have hK := hK.below (alloc_below W (.cells #[.slice (some ⟨bA, 0, none⟩) 32 32] 23))
  refine (F.wsumA hfl.out Hd.out hln.out _ (F.keep _ _ hT hK.2) hq).mono ?_
  rintro e V1 ⟨rfl, bw⟩
  have hK := hK.below bw
  clear bw hq
  go_upto_region 2 with (refine wpList_store_new (by rfl) 24 (.tmp 4) (.tmp 7) (by rfl) _ (B64 (bdig (two lo hi))) (by rfl) (by rfl) (B64_info _) (B64_sizes _ _) (B64_one _) (by rfl) ?_)
  have lt_bP := (hK.at bP (B32 fun _ => 0) 22 (.head _)).lt
  have lt_bN := (hK.at bN (B32 fun _ => 0) 22 (.tail _ (.head _))).lt
  have lt_bA := (hK.at bA (B32 (bdig n)) 22 (.tail _ (.tail _ (.head _)))).lt
  have le_b2 := show Hid _ from hK.2.size
  have hK := hK.alloc (B64 (bdig (two lo hi))) 24
  generalize V1.alloc (.cells (B64 (bdig (two lo hi))) 24) = V3 at *
  obtain ⟨b2, Hb2⟩ : ∃ b, Hid (V1.heap.size = b) := ⟨_, rfl⟩
  have ne_bP_b2 : Hid (bP ≠ b2) := by show _ ≠ _; rw [← Hb2.out]; exact Nat.ne_of_lt lt_bP
  have ne_bN_b2 : Hid (bN ≠ b2) := by show _ ≠ _; rw [← Hb2.out]; exact Nat.ne_of_lt lt_bN
  have ne_bA_b2 : Hid (bA ≠ b2) := by show _ ≠ _; rw [← Hb2.out]; exact Nat.ne_of_lt lt_bA
  have le_b2 : Hid (w.heap.size ≤ b2) := by show _ ≤ _; rw [← Hb2.out]; exact le_b2.out
  rw [Hb2.out] at hK ⊢
  clear lt_bP lt_bN lt_bA
  refine wp_region_lv 28 (fun L => [(b2, B64 (bdig (two lo hi)), 24), (bP, if L 7 = true then B32 (bdig hi) else B32 fun _ => 0, 22), (bN, if L 6 = true then B32 (bdig lo) else B32 fun _ => 0, 22), (bA, B32 (bdig n), 22)]) [.v (.slice (some ⟨b2, 0, none⟩) 32 64), .v (.pointer (some ⟨b2, 0, none⟩)), .v (.agg (B32 (bdig lo))), .v (.slice (some ⟨b2, 32, none⟩) 32 32), .v (.pointer (some ⟨b2, 32, none⟩)), .v (.agg (B32 (bdig hi))), .o, .o] hK (by kernel_rfl) (by kernel_rfl) (by kernel_rfl) (by rfl) ?_ ?_
  · exact .c (.p1 4 (.pointer (some ⟨b2, 0, none⟩))) <| .c (.p1 8 (.slice (some ⟨b2, 0, none⟩) 32 64)) <| .c (.x [(9, .pointer (some ⟨b2, 0, none⟩))] fun _ _ _ _ _ hfx hkx hx => wp_load_mid 22 (.tmp 9) rfl b2 0 (hfx _ (.head _)) (B32 (bdig lo)).toList _ (B64_lo2 llo.out (hkx.at b2 (B64 (bdig (two lo hi))) 24 (.head _))) Tryd.underlying22 rfl (B32_len7 _) (hx _ _ rfl (Below.refl _ _))) <| .c (.p1 4 (.pointer (some ⟨b2, 0, none⟩))) <| .c (.p1 11 (.slice (some ⟨b2, 32, none⟩) 32 32)) <| .c (.x [(12, .pointer (some ⟨b2, 32, none⟩))] fun _ _ _ _ _ hfx hkx hx => wp_load_mid 22 (.tmp 12) rfl b2 32 (hfx _ (.head _)) (B32 (bdig hi)).toList _ (B64_hi2 llo.out (hkx.at b2 (B64 (bdig (two lo hi))) 24 (.head _))) Tryd.underlying22 rfl (B32_len7 _) (hx _ _ rfl (Below.refl _ _))) <| .c (.sk bN (.nx (fun _ => rfl) (fun _ => rfl) (fun _ => Ne.symm ne_bN_b2.out) <| .nx (fun _ => rfl) (fun _ => rfl) (fun _ => Ne.symm ne_bN_bP.out) <| .hr (fun _ => rfl) (fun _ => rfl) (fun _ => fc ne_bA_bN <| fn)) le_bN.out (B32_info _) (B32_one _)) <| .c (.sk bP (.nx (fun _ => rfl) (fun _ => rfl) (fun _ => Ne.symm ne_bP_b2.out) <| .hr (fun _ => rfl) (fun _ => rfl) (fun _ => fc ne_bN_bP <| fc ne_bA_bP <| fn)) le_bP.out (B32_info _) (B32_one _)) .nil
  intro _ V4 hJ _
  have hK : Kp [(b2, B64 (bdig (two lo hi)), 24), (bP, B32 (bdig hi), 22), (bN, B32 (bdig lo), 22), (bA, B32 (bdig n), 22)] w V4 := hJ.1
  clear hJ
  simp only [putL, Lv.val, Act.put, List.setIfInBounds_toArray, List.set_cons_succ, List.set_cons_zero]
  have oN := (hK.at bN (B32 (bdig lo)) 22 (.tail _ (.tail _ (.head _))))
  have hK : Kp [(bN, B32 (bdig lo), 22), (b2, B64 (bdig (two lo hi)), 24), (bP, B32 (bdig hi), 22), (bA, B32 (bdig n), 22)] w V4 := ((((hK.none.cons (hK.at bA (B32 (bdig n)) 22 (.tail _ (.tail _ (.tail _ (.head _)))))).cons (hK.at bP (B32 (bdig hi)) 22 (.tail _ (.head _)))).cons (hK.at b2 (B64 (bdig (two lo hi))) 24 (.head _))).cons (hK.at bN (B32 (bdig lo)) 22 (.tail _ (.tail _ (.head _)))))
  have fr := fun (A : Array Value) (W : World) (i : Nat) (h : Own W bN A 22) => h.frozen i
  have cq : V4.cell? ⟨bN, 0, none⟩ = some (.int .u8 (x0 : Int)) := by have := (hK.at bN (B32 (bdig lo)) 22 (.head _)).cell (B32_at (bdig lo) 0 (by decide)); rw [Hx0.out] at this; exact this
  have fq := (hK.at bN (B32 (bdig lo)) 22 (.head _)).frozen 0
  go_upto_region 4 with fail
  rw [hb0.out]
  have hK := Kp.setCell (i := 0) (v := .int .u8 (y0 : Int)) hK (by simp only [List.forall_mem_cons, List.not_mem_nil, false_implies, implies_true, and_true]; exact ⟨(Ne.symm ne_bN_b2.out), (Ne.symm ne_bN_bP.out), ne_bA_bN.out⟩) le_bN.out
  rw [B32_set (bdig lo) 0 y0 (by decide)] at hK
  generalize V4.setCell ⟨bN, 0, none⟩ (.int .u8 (y0 : Int)) = V5 at *
  clear cq fq
  have cq : V5.cell? ⟨bN, 31, none⟩ = some (.int .u8 (x31 : Int)) := by have := (hK.at bN (B32 (upd (bdig lo) 0 y0)) 22 (.head _)).cell (B32_at (upd (bdig lo) 0 y0) 31 (by decide)); rw [upd_other _ _ _ _ (by decide), Hx31.out] at this; exact this
  have fq := (hK.at bN (B32 (upd (bdig lo) 0 y0)) 22 (.head _)).frozen 31
  go_upto_region 5 with fail
  rw [hb1.out]
  have hK := Kp.setCell (i := 31) (v := .int .u8 (y1 : Int)) hK (by simp only [List.forall_mem_cons, List.not_mem_nil, false_implies, implies_true, and_true]; exact ⟨(Ne.symm ne_bN_b2.out), (Ne.symm ne_bN_bP.out), ne_bA_bN.out⟩) le_bN.out
  rw [B32_set (upd (bdig lo) 0 y0) 31 y1 (by decide)] at hK
  generalize V5.setCell ⟨bN, 31, none⟩ (.int .u8 (y1 : Int)) = V6 at *
  clear cq fq
  have cq : V6.cell? ⟨bN, 31, none⟩ = some (.int .u8 (y1 : Int)) := by have := (hK.at bN (B32 (upd (upd (bdig lo) 0 y0) 31 y1)) 22 (.head _)).cell (B32_at (upd (upd (bdig lo) 0 y0) 31 y1) 31 (by decide)); rw [upd_same] at this; exact this
  have fq := (hK.at bN (B32 (upd (upd (bdig lo) 0 y0) 31 y1)) 22 (.head _)).frozen 31
  go_upto_region 6 with fail
  rw [hb2.out]
  have hK := Kp.setCell (i := 31) (v := .int .u8 (y2 : Int)) hK (by simp only [List.forall_mem_cons, List.not_mem_nil, false_implies, implies_true, and_true]; exact ⟨(Ne.symm ne_bN_b2.out), (Ne.symm ne_bN_bP.out), ne_bA_bN.out⟩) le_bN.out
  rw [B32_set (upd (upd (bdig lo) 0 y0) 31 y1) 31 y2 (by decide)] at hK
  generalize V6.setCell ⟨bN, 31, none⟩ (.int .u8 (y2 : Int)) = V7 at *
  clear cq fq
  rw [show B32 (upd (upd (upd (bdig lo) 0 y0) 31 y1) 31 y2) = B32 (bdig c) by rw [upd_upd, ← Hy0.out, ← Hy2.out, ← Hx0.out, ← Hx31.out, B32_clamp, Hc.out]] at hK
  refine wp_region_lv 28 (fun L => [(bN, if L 2 = true then B32 (bdig c) else B32 (bdig c), 22), (b2, B64 (bdig (two lo hi)), 24), (bP, if L 3 = true then B32 (bdig hi) else B32 (bdig hi), 22), (bA, B32 (bdig n), 22)]) [.v (.agg (B32 (bdig c))), .v (.agg (B32 (bdig hi))), .o, .o] hK (by kernel_rfl) (by kernel_rfl) (by kernel_rfl) (by rfl) ?_ ?_
  · exact .c (.lq bN 2 false (fun L h => by rw [h]; exact .head _) Tryd.underlying22 rfl (B32_info _)) <| .c (.lq bP 3 false (fun L h => by rw [h]; exact .tail _ (.tail _ (.head _))) Tryd.underlying22 rfl (B32_info _)) <| .c (.sk bN (.hr (fun _ => rfl) (fun _ => rfl) (fun _ => fs ne_bN_b2 <| fs ne_bN_bP <| fc ne_bA_bN <| fn)) le_bN.out (B32_info _) (B32_one _)) <| .c (.sk bP (.nx (fun _ => rfl) (fun _ => rfl) (fun _ => ne_bN_bP.out) <| .nx (fun _ => rfl) (fun _ => rfl) (fun _ => Ne.symm ne_bP_b2.out) <| .hr (fun _ => rfl) (fun _ => rfl) (fun _ => fc ne_bA_bP <| fn)) le_bP.out (B32_info _) (B32_one _)) .nil
  intro _ V8 hJ _
  have hK : Kp [(bN, B32 (bdig c), 22), (b2, B64 (bdig (two lo hi)), 24), (bP, B32 (bdig hi), 22), (bA, B32 (bdig n), 22)] w V8 := hJ.1
  clear hJ
  simp only [putL, Lv.val, Act.put, List.setIfInBounds_toArray, List.set_cons_succ, List.set_cons_zero]
  go_wp2_with fail
  exact bodyPost_ret (results_own2 Tryd.results16 _ _ bN (B32 (bdig c)) bP (B32 (bdig hi)) _ _ (by rfl) (by rfl) (hK.at bN (B32 (bdig c)) 22 (.head _)) (hK.at bP (B32 (bdig hi)) 22 (.tail _ (.tail _ (.head _)))) Tryd.underlying22 rfl (B32_info _) Tryd.underlying22 rfl (B32_info _)) rfl ⟨rfl, hK.2⟩
end Go.Proofs.YtgibllaifnnfkaaDoor
