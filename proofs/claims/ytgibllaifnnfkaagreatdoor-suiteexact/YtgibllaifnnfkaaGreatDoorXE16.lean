/- Of the texts GB: what the card of this claim reaches. -/
import Derived.Test.YtgibllaifnnfkaaGreatDoorXE12
import Derived.Test.YtgibllaifnnfkaaGreatDoorXE13
import Derived.Test.YtgibllaifnnfkaaGreatDoorXE14
import Derived.Test.YtgibllaifnnfkaaGreatDoorXE4
namespace Go.Proofs.YtgibllaifnnfkaaGreatDoor
open Go Go.RowKit
theorem wp_index_m {op : Oper} {a : Act} {w : World} {K : Act → World → Prop} {Q : Exit → Act → World → Prop} (x y : Tmp) (ho : op.op = .indexAddr 116 (.tmp x) (.tmp y)) (b k : Nat) (kk : IntKind) (hx : a.tmps.getD x undef = .pointer (some ⟨b, 0, none⟩)) (hy : a.tmps.getD y undef = .int kk (k : Int)) (hk : k < 16)
    (h : K (a.put op.dst (.pointer (some ⟨b, 96 * k, none⟩))) w) : op.wp Tryz.prog a w K Q := by
  have g0 := getq hx
  have g1 := getq hy
  have h0 : (0 : Int) ≤ (k : Int) := by omega
  have h1 : (k : Int) < 16 := by omega
  unfold Oper.wp execOp
  rw [ho]
  go_simp
  rw [Nat.mul_comm] at h
  exact h
theorem wp_index_b {op : Oper} {a : Act} {w : World} {K : Act → World → Prop} {Q : Exit → Act → World → Prop} (x y : Tmp) (ho : op.op = .indexAddr 22 (.tmp x) (.tmp y)) (b k : Nat) (kk : IntKind) (hx : a.tmps.getD x undef = .pointer (some ⟨b, 0, none⟩)) (hy : a.tmps.getD y undef = .int kk (k : Int)) (hk : k < 32)
    (h : K (a.put op.dst (.pointer (some ⟨b, k, none⟩))) w) : op.wp Tryz.prog a w K Q := by
  have g0 := getq hx
  have g1 := getq hy
  have h0 : (0 : Int) ≤ (k : Int) := by omega
  have h1 : (k : Int) < 32 := by omega
  unfold Oper.wp execOp
  rw [ho]
  go_simp
  exact h
theorem wp_load_b {op : Oper} {a : Act} {w : World} {K : Act → World → Prop} {Q : Exit → Act → World → Prop} (x : Tmp) (ho : op.op = .load 5 (.tmp x)) (b k v : Nat) (hx : a.tmps.getD x undef = .pointer (some ⟨b, k, none⟩)) (hc : w.cell? ⟨b, k, none⟩ = some (.int .u8 (v : Int)))
    (h : K (a.put op.dst (.int .u8 (v : Int))) w) : op.wp Tryz.prog a w K Q := by
  have g0 := getq hx
  unfold Oper.wp execOp
  rw [ho]
  go_simp
  exact h
theorem and15 (v : Nat) (hv : v < 256) : bits .and .u8 (v : Int) 15 = ((v % 16 : Nat) : Int) := by
  have := u8_and_nat v 15 hv (by decide)
  have e := Nat.and_two_pow_sub_one_eq_mod v 4
  rw [show (15 : Nat) = 2 ^ 4 - 1 from rfl, e] at this
  exact this
theorem wp_and15 {op : Oper} {a : Act} {w : World} {K : Act → World → Prop} {Q : Exit → Act → World → Prop} (x : Tmp) (ho : op.op = .binOp .and 5 (.tmp x) (.const (.int .u8 15)) 5) (v : Nat) (hv : v < 256) (hx : a.tmps.getD x undef = .int .u8 (v : Int))
    (h : K (a.put op.dst (.int .u8 ((v % 16 : Nat) : Int))) w) : op.wp Tryz.prog a w K Q := by
  have g0 := getq hx
  have hb := and15 v hv
  obtain ⟨u, hu⟩ : ∃ u, v % 16 = u := ⟨_, rfl⟩
  rw [hu] at hb h
  unfold Oper.wp execOp
  rw [ho]
  go_simp
  exact h
theorem wp_shr4 {op : Oper} {a : Act} {w : World} {K : Act → World → Prop} {Q : Exit → Act → World → Prop} (x : Tmp) (ho : op.op = .binOp .shr 5 (.tmp x) (.const (.int .u64 4)) 68) (v : Nat) (hx : a.tmps.getD x undef = .int .u8 (v : Int))
    (h : K (a.put op.dst (.int .u8 ((v / 16 : Nat) : Int))) w) : op.wp Tryz.prog a w K Q := by
  have g0 := getq hx
  unfold Oper.wp execOp
  rw [ho]
  go_simp
  exact h
theorem wp_dec {op : Oper} {a : Act} {w : World} {K : Act → World → Prop} {Q : Exit → Act → World → Prop} (x : Tmp) (ho : op.op = .binOp .sub 3 (.tmp x) (.const (.int .i64 1)) 3) (j : Nat) (hj : j < 9223372036854775807) (hx : a.tmps.getD x undef = .int .i64 ((j + 1 : Nat) : Int))
    (h : K (a.put op.dst (.int .i64 (j : Int))) w) : op.wp Tryz.prog a w K Q := by
  have g0 := getq hx
  have e : IntKind.i64.wrap (j : Int) = (j : Int) := by simp [IntKind.wrap, IntKind.bits, IntKind.signed]; omega
  have e2 : (((j + 1 : Nat) : Int)) = (j : Int) + 1 := by omega
  unfold Oper.wp execOp
  rw [ho]
  rw [e2] at g0
  go_simp
  exact h
theorem Kp.seg {l : List (Nat × Array Value × TypeId)} {w0 w : World} {b : Nat} {f : Nat → N3} {t : TypeId} (k : Nat) (r : N3) (h : Kp ((b, MA f, t) :: l) w0 w) (hl : ∀ p ∈ l, p.1 ≠ b) (hb : w0.heap.size ≤ b) : Kp ((b, MA (updQ f k r), t) :: l) w0 (w.setCells b (96 * k) (QA r).toList) := by
  refine ⟨fun p hp => ?_, Below.setCells _ _ _ _ hb h.2⟩
  rcases List.mem_cons.1 hp with rfl | hp
  · exact MA_put k r (h.at b (MA f) t (.head _))
  · exact Own.setCells_other (hl p hp) _ _ _ (h.1 p (by simp [hp]))
theorem seg_fits (f : Nat → N3) (r : N3) {k : Nat} (hk : k < 16) : 96 * k + (QA r).size ≤ (MA f).size := by rw [QA_size, MA_size]; omega
theorem MA_ext {f g : Nat → N3} (h : ∀ k, k < 16 → f k = g k) : MA f = MA g := BN_ext fun i hi => by rw [h (i / 96) (by omega)]
def mulT (r : N3) : Nat → N3
  | 0 => ⟨0, 1, 1⟩
  | k + 1 => sum3 (mulT r k) r
theorem Ok3.some {P : Pt E5} {r : N3} (h : Ok3 P r) : ∀ k, Ok3 (Pt.times k P) (mulT r k)
  | 0 => Ok3.zero
  | k + 1 => (Ok3.some h k).sum h
def iterD (r : N3) : Nat → N3
  | 0 => r
  | k + 1 => dbl3 (iterD r k)
theorem Ok3.dbls {P : Pt E5} {r : N3} (h : Ok3 P r) : ∀ k, Ok3 (Pt.times (2 ^ k) P) (iterD r k)
  | 0 => by rw [Nat.pow_zero, Pt.times_one]; exact h
  | k + 1 => by
    have := (Ok3.dbls h k).dbl
    rw [← Pt.times_add, ← Nat.two_mul, ← Nat.pow_succ'] at this
    exact this
theorem nib_hi (n j : Nat) : n / 256 ^ (j + 1) * 16 + bdig n j / 16 = n / (256 ^ j * 16) := by
  unfold bdig
  rw [Nat.pow_succ, ← Nat.div_div_eq_div_mul, ← Nat.div_div_eq_div_mul]
  generalize n / 256 ^ j = m
  omega
theorem nib_lo (n j : Nat) : n / (256 ^ j * 16) * 16 + bdig n j % 16 = n / 256 ^ j := by
  unfold bdig
  rw [← Nat.div_div_eq_div_mul]
  generalize n / 256 ^ j = m
  omega
theorem Ok3.step {P : Pt E5} {t u s : N3} {k d m : Nat} (ht : Ok3 (Pt.times k P) t) (hu : iterD t 4 = u) {r : N3} (hr : Ok3 P r) (hs : sum3 u (mulT r d) = s) (hm : k * 16 + d = m) : Ok3 (Pt.times m P) s := by
  subst hs hu hm
  have h1 := (ht.dbls 4).sum (hr.some d)
  rw [← Pt.times_mul, ← Pt.times_add] at h1
  exact h1
end Go.Proofs.YtgibllaifnnfkaaGreatDoor
namespace Go.Proofs.YtgibllaifnnfkaaGreatDoor
open Go Go.RowKit
set_option maxRecDepth 100000 in
set_option maxHeartbeats 4000000 in
theorem sixteen_at {P : Pt E5} {r c : N3} (hr : Ok3 P r) (hc : iterD r 4 = c) (w : World) (hT : TC w) : Calls Tryz.prog 89 #[.agg (QA r)] w fun x w' => x = .returned (.agg (QA c)) ∧ Below w.heap.size w w' := by
  subst hc
  have hzP := (zero_of_info zeroQA).1
  go_enter Tryz.func89, Tryz.ntmps89
  go_upto_region 1 with fail
  have hK := ((Kp.nil w).alloc (QA r) 74).alloc (QA ⟨0, 0, 0⟩) 74
  rw [World.size_alloc] at hK
  generalize (w.alloc (.cells (QA r) 74)).alloc (.cells (QA ⟨0, 0, 0⟩) 74) = W at *
  obtain ⟨bP, HbP⟩ : ∃ b, Hid (w.heap.size = b) := ⟨_, rfl⟩
  obtain ⟨bR, HbR⟩ : ∃ b, Hid (bP + 1 = b) := ⟨_, rfl⟩
  have le_bP : Hid (w.heap.size ≤ bP) := by show _ ≤ _; have := HbP.out; omega
  have le_bR : Hid (w.heap.size ≤ bR) := by show _ ≤ _; have := HbP.out; have := HbR.out; omega
  have ne_bP_bR : Hid (bP ≠ bR) := by show _ ≠ _; have := HbR.out; omega
  rw [HbP.out, HbR.out] at hK ⊢
  go_wp2_with fail
  have hK0 : Kp [(bP, QA r, 74), (bR, QA ⟨0, 0, 0⟩, 74)] w W := ((hK.none.cons (hK.at bR (QA ⟨0, 0, 0⟩) 74 (.head _))).cons (hK.at bP (QA r) 74 (.tail _ (.head _))))
  go_loopw [3] (fun ii wr => ∃ (i : Nat) (s : N3), i ≤ 4 ∧ ii = .int .i64 (i : Int) ∧ Hid (iterD r i = s) ∧ Kp [(bP, QA s, 74), (bR, QA ⟨0, 0, 0⟩, 74)] w wr) (fun ii _ => 4 - (intOf ii).toNat)
  case atStart => exact ⟨0, r, by omega, rfl, rfl, hK0⟩
  case round =>
    obtain ⟨i, s, hi, rfl, Hs, hK⟩ := hrel
    have hi0 : (0 : Int) ≤ (i : Int) := by omega
    by_cases hlt : i < 4
    · have hki : (i : Int) < 4 := by omega
      obtain ⟨t, Ht⟩ : ∃ t, Hid (dbl3 s = t) := ⟨_, rfl⟩
      have hso : Ok3 (Pt.times (2 ^ i) P) s := by rw [← Hs.out]; exact hr.dbls i
      go_upto_region 3 with fail
      go_wp2_with (refine wpList_load_own (by rfl) 74 (.tmp 1) (by rfl) bP (by rfl) (QA s) _ (hK.at bP (QA s) 74 (.head _)) Tryz.underlying74 (by rfl) (QA_info _) ?_)
      refine (double_at hso Ht.out _ (TC.keep hT hK.2)).mono ?_
      rintro e V1 ⟨rfl, bw⟩
      have hK := hK.below bw
      clear bw
      go_upto_region 4 with (refine wpList_store_own (op := { dst := none, op := _, type := _, pos := _, after := _, guard := _ }) rfl 74 (.tmp 1) (.tmp 6) rfl bP 0 (QA t) (by rfl) (by rfl) (hK.at bP (QA s) 74 (.head _)) (QA_le _ _) (QA_info _) (QA_one _) (by rfl) ?_)
      have hK : Kp [(bP, QA s, 74), (bR, QA ⟨0, 0, 0⟩, 74)] w V1 := ((hK.none.cons (hK.at bR (QA ⟨0, 0, 0⟩) 74 (.tail _ (.head _)))).cons (hK.at bP (QA s) 74 (.head _)))
      have hK := Kp.set (A' := QA t) hK (by simp only [List.forall_mem_cons, List.not_mem_nil, false_implies, implies_true, and_true]; exact (Ne.symm ne_bP_bR.out)) le_bP.out (QA_sizes _ _)
      generalize V1.setCells bP 0 (QA t).toList = V2 at *
      go_wp2_with fail
      exact ⟨⟨i + 1, t, by omega, by go_num, by show _ = _; rw [← Ht.out, ← Hs.out]; rfl, hK⟩, by simp [intOf]; omega⟩
    · have hki : ¬ (i : Int) < 4 := by omega
      have He : Hid (iterD r 4 = s) := by show _ = _; rw [← Hs.out, show i = 4 by omega]
      go_upto_region 5 with fail
      go_wp2_with (first
        | refine wpList_load_own (by rfl) 74 (.tmp 1) (by rfl) bP (by rfl) (QA s) _ (hK.at bP (QA s) 74 (.head _)) Tryz.underlying74 (by rfl) (QA_info _) ?_
        | refine wpList_store_own (op := { dst := none, op := _, type := _, pos := _, after := _, guard := _ }) rfl 74 (.tmp 2) (.tmp 8) rfl bR 0 (QA s) (by rfl) (by rfl) (hK.at bR (QA ⟨0, 0, 0⟩) 74 (.tail _ (.head _))) (QA_le _ _) (QA_info _) (QA_one _) (by rfl) ?_)
      exact bodyPost_ret (results_own Tryz.results89 _ _ bR (QA s) _ (by rfl) (own_setCells (hK.at bR (QA ⟨0, 0, 0⟩) 74 (.tail _ (.head _))) (QA_sizes _ _)) Tryz.underlying74 rfl (QA_info _)) rfl ⟨by rw [He.out], Below.setCells _ _ _ _ le_bR.out hK.2⟩
def valMu (b1 j : Nat) (f : Nat → N3) (r t : N3) : Nat → Value
  | 0 => .int .i64 (((j + 1 : Nat) : Int))
  | 1 => .int .i64 (((j + 1 : Nat) : Int))
  | 2 => .int .i64 ((j : Int))
  | 3 => .pointer (some ⟨b1, 96 * j, none⟩)
  | 4 => .agg (QA (f j))
  | 5 => .agg (QA r)
  | 6 => .agg (QA t)
  | 7 => .pointer (some ⟨b1, 96 * (j + 1), none⟩)
  | _ => undef
set_option maxRecDepth 100000 in
set_option maxHeartbeats 4000000 in
theorem multiples_at {P : Pt E5} {r : N3} {g : Nat → N3} (hr : Ok3 P r) (hg : mulT r = g) (w : World) (hT : TC w) : Calls Tryz.prog 88 #[.agg (QA r)] w fun x w' => x = .returned (.agg (MA g)) ∧ Below w.heap.size w w' := by
  subst hg
  have hzP := (zero_of_info zeroQA).1
  have hzM := (zero_of_info zeroMA).1
  go_enter Tryz.func88, Tryz.ntmps88
  go_upto_region 1 with fail
  have hK := ((Kp.nil w).alloc (QA r) 74).alloc (MA fun _ => ⟨0, 0, 0⟩) 116
  rw [World.size_alloc] at hK
  generalize (w.alloc (.cells (QA r) 74)).alloc (.cells (MA fun _ => ⟨0, 0, 0⟩) 116) = W at *
  obtain ⟨bP, HbP⟩ : ∃ b, Hid (w.heap.size = b) := ⟨_, rfl⟩
  obtain ⟨bR, HbR⟩ : ∃ b, Hid (bP + 1 = b) := ⟨_, rfl⟩
  have le_bP : Hid (w.heap.size ≤ bP) := by show _ ≤ _; have := HbP.out; omega
  have le_bR : Hid (w.heap.size ≤ bR) := by show _ ≤ _; have := HbP.out; have := HbR.out; omega
  have ne_bP_bR : Hid (bP ≠ bR) := by show _ ≠ _; have := HbR.out; omega
  rw [HbP.out, HbR.out] at hK ⊢
  go_upto_region 2 with (first
    | refine wpList_load_n (by rfl) (by rfl) (TC.keep hT hK.2) ?_
    | refine wpList_build_m (by rfl) 5 ⟨0, 1, 1⟩ (by rfl) (by rfl) ?_
    | refine wpList_store_new (by rfl) 116 (.tmp 3) (.tmp 6) (by rfl) _ (MA (updQ (fun _ => ⟨0, 0, 0⟩) 0 ⟨0, 1, 1⟩)) (by rfl) (by rfl) (MA_info _) (MA_sizes _ _) (MA_one _) (by rfl) ?_)
  have lt_bR := (hK.at bR (MA fun _ => ⟨0, 0, 0⟩) 116 (.head _)).lt
  have lt_bP := (hK.at bP (QA r) 74 (.tail _ (.head _))).lt
  have le_b1 := show Hid _ from hK.2.size
  have hK := hK.alloc (MA (updQ (fun _ => ⟨0, 0, 0⟩) 0 ⟨0, 1, 1⟩)) 116
  generalize W.alloc (.cells (MA (updQ (fun _ => ⟨0, 0, 0⟩) 0 ⟨0, 1, 1⟩)) 116) = V2 at *
  obtain ⟨b1, Hb1⟩ : ∃ b, Hid (W.heap.size = b) := ⟨_, rfl⟩
  have ne_bR_b1 : Hid (bR ≠ b1) := by show _ ≠ _; rw [← Hb1.out]; exact Nat.ne_of_lt lt_bR
  have ne_bP_b1 : Hid (bP ≠ b1) := by show _ ≠ _; rw [← Hb1.out]; exact Nat.ne_of_lt lt_bP
  have le_b1 : Hid (w.heap.size ≤ b1) := by show _ ≤ _; rw [← Hb1.out]; exact le_b1.out
  rw [Hb1.out] at hK ⊢
  clear lt_bR lt_bP
  go_wp2_with fail
  have hK0 : Kp [(b1, MA (updQ (fun _ => ⟨0, 0, 0⟩) 0 ⟨0, 1, 1⟩), 116), (bR, MA fun _ => ⟨0, 0, 0⟩, 116), (bP, QA r, 74)] w V2 := (((hK.none.cons (hK.at bP (QA r) 74 (.tail _ (.tail _ (.head _))))).cons (hK.at bR (MA fun _ => ⟨0, 0, 0⟩) 116 (.tail _ (.head _)))).cons (hK.at b1 (MA (updQ (fun _ => ⟨0, 0, 0⟩) 0 ⟨0, 1, 1⟩)) 116 (.head _)))
  go_loopw [4] (fun ii wr => ∃ (j : Nat) (f : Nat → N3), j ≤ 15 ∧ ii = .int .i64 ((j + 1 : Nat) : Int) ∧ Hid (∀ i, i ≤ j → f i = mulT r i) ∧ Kp [(b1, MA f, 116), (bR, MA fun _ => ⟨0, 0, 0⟩, 116), (bP, QA r, 74)] w wr) (fun ii _ => 16 - (intOf ii).toNat)
  case atStart => exact ⟨0, _, by omega, rfl, fun i hi => by (obtain rfl : i = 0 := by omega); rfl, hK0⟩
  case round =>
    obtain ⟨j, f, hj, rfl, Hf, hK⟩ := hrel
    have hj0 : (0 : Int) ≤ ((j + 1 : Nat) : Int) := by omega
    by_cases hlt : j < 15
    · have hki : ((j + 1 : Nat) : Int) < 16 := by omega
      have lj : Hid (j < 9223372036854775807) := by show _ < _; omega
      have h16j : Hid (j < 16) := by show _ < _; omega
      have h16k : Hid (j + 1 < 16) := by show _ < _; omega
      have hfj : Hid (Ok3 (Pt.times j P) (f j)) := by show Ok3 _ _; rw [Hf.out j (Nat.le_refl _)]; exact hr.some j
      obtain ⟨t, Ht⟩ : ∃ t, Hid (sum3 (f j) r = t) := ⟨_, rfl⟩
      go_upto_region 5 with fail
      refine wp_region_vals 20 (by kernel_rfl) (by kernel_rfl) (by rfl) (valMu b1 j f r t) (fun L => Kp [(b1, if L 8 = true then MA (updQ f (j + 1) t) else MA f, 116), (bR, MA fun _ => ⟨0, 0, 0⟩, 116), (bP, QA r, 74)] w) hK.drew ?_ ?_
      · intro L ac wc i o hF hLi ho hd K hK
        rcases i with _ | _ | _ | _ | _ | _ | _ | _ | _ | i
        · have ho' := ho
          obtain rfl := Option.some.inj ho
          have f4 : ac.tmps.getD 4 undef = .int .i64 (((j + 1 : Nat) : Int)) := slotv hF 0 hLi 4 (by kernel_rfl)
          refine step_do ho' (wanted_free rfl) ?_
          unfold Oper.wp
          go_simp
          exact hK _ _ (.inr rfl) hF.j
        · have ho' := ho
          obtain rfl := Option.some.inj ho
          have f4 : ac.tmps.getD 4 undef = .int .i64 (((j + 1 : Nat) : Int)) := slotv hF 1 hLi 4 (by kernel_rfl)
          refine step_do ho' (wanted_free rfl) ?_
          unfold Oper.wp
          go_simp
          exact hK _ _ (.inr rfl) hF.j
        · have ho' := ho
          obtain rfl := Option.some.inj ho
          have f12 : ac.tmps.getD 12 undef = .int .i64 (((j + 1 : Nat) : Int)) := valv hF hd 1 rfl rfl (by kernel_rfl)
          refine step_do ho' (wanted_free rfl) ?_
          exact wp_dec 12 rfl j lj.out f12 (hK _ _ (.inr rfl) hF.j)
        · have ho' := ho
          obtain rfl := Option.some.inj ho
          have f3 : ac.tmps.getD 3 undef = .pointer (some ⟨b1, 0, none⟩) := slotv hF 3 hLi 3 (by kernel_rfl)
          have f13 : ac.tmps.getD 13 undef = .int .i64 ((j : Int)) := valv hF hd 2 rfl rfl (by kernel_rfl)
          refine step_do ho' (wanted_free rfl) ?_
          exact wp_index_m 3 13 rfl b1 j .i64 f3 f13 h16j.out (hK _ _ (.inr rfl) hF.j)
        · have ho' := ho
          obtain rfl := Option.some.inj ho
          have f14 : ac.tmps.getD 14 undef = .pointer (some ⟨b1, 96 * j, none⟩) := valv hF hd 3 rfl rfl (by kernel_rfl)
          refine step_do ho' (wanted_free rfl) ?_
          have hny := notyet hF 4 hLi 8 rfl (by kernel_rfl)
          have hj := hF.j
          rw [hny] at hj
          have hj : Kp [(b1, MA f, 116), (bR, MA fun _ => ⟨0, 0, 0⟩, 116), (bP, QA r, 74)] w wc := hj
          exact wp_load_mid 74 (.tmp 14) rfl b1 (96 * j) f14 (QA (f j)).toList _ (MA_part f j h16j.out (hj.at b1 (MA f) 116 (.head _))) Tryz.underlying74 rfl (QA_len _) (hK _ _ (.inr rfl) hF.j)
        · have ho' := ho
          obtain rfl := Option.some.inj ho
          have f1 : ac.tmps.getD 1 undef = .pointer (some ⟨bP, 0, none⟩) := slotv hF 5 hLi 1 (by kernel_rfl)
          refine step_do ho' (wanted_free rfl) ?_
          exact wp_load_own 74 (.tmp 1) rfl bP f1 (QA r) _ 74 (hF.j.at bP (QA r) 74 (.tail _ (.tail _ (.head _)))) Tryz.underlying74 rfl (QA_info _) (hK _ _ (.inr rfl) hF.j)
        · have ho' := ho
          obtain rfl := Option.some.inj ho
          have f15 : ac.tmps.getD 15 undef = .agg (QA (f j)) := valv hF hd 4 rfl rfl (by kernel_rfl)
          have f16 : ac.tmps.getD 16 undef = .agg (QA r) := valv hF hd 5 rfl rfl (by kernel_rfl)
          refine step_do ho' (wanted_free rfl) ?_
          unfold Oper.wp
          go_simp
          refine (sum_at hfj.out hr Ht.out _ (TC.keep hT hF.j.2)).mono ?_
          rintro e w' ⟨rfl, hB⟩
          exact hK _ _ (.inr rfl) (hF.j.below hB)
        · have ho' := ho
          obtain rfl := Option.some.inj ho
          have f3 : ac.tmps.getD 3 undef = .pointer (some ⟨b1, 0, none⟩) := slotv hF 7 hLi 3 (by kernel_rfl)
          have f11 : ac.tmps.getD 11 undef = .int .i64 (((j + 1 : Nat) : Int)) := valv hF hd 0 rfl rfl (by kernel_rfl)
          refine step_do ho' (wanted_free rfl) ?_
          exact wp_index_m 3 11 rfl b1 (j + 1) .i64 f3 f11 h16k.out (hK _ _ (.inr rfl) hF.j)
        · have ho' := ho
          obtain rfl := Option.some.inj ho
          have f18 : ac.tmps.getD 18 undef = .pointer (some ⟨b1, 96 * (j + 1), none⟩) := valv hF hd 7 rfl rfl (by kernel_rfl)
          have f17 : ac.tmps.getD 17 undef = .agg (QA t) := valv hF hd 6 rfl rfl (by kernel_rfl)
          refine step_do ho' (wanted_free rfl) ?_
          have hj := hF.j
          rw [hLi] at hj
          have hj : Kp [(b1, MA f, 116), (bR, MA fun _ => ⟨0, 0, 0⟩, 116), (bP, QA r, 74)] w wc := hj
          have hj : Kp [(b1, MA f, 116), (bR, MA fun _ => ⟨0, 0, 0⟩, 116), (bP, QA r, 74)] w wc := (((hj.none.cons (hj.at bP (QA r) 74 (.tail _ (.tail _ (.head _))))).cons (hj.at bR (MA fun _ => ⟨0, 0, 0⟩) 116 (.tail _ (.head _)))).cons (hj.at b1 (MA f) 116 (.head _)))
          refine wp_store_mid 74 (.tmp 18) (.tmp 17) rfl b1 (96 * (j + 1)) (QA t) f18 f17 ((hj.at b1 (MA f) 116 (.head _)).there (96 * (j + 1)) _ (seg_fits _ _ h16k.out)) (QA_info _) (QA_one _) ?_
          have hj := Kp.seg (j + 1) t hj (by simp only [List.forall_mem_cons, List.not_mem_nil, false_implies, implies_true, and_true]; exact ⟨ne_bR_b1.out, ne_bP_b1.out⟩) le_b1.out
          exact hK undef _ (.inl rfl) (((hj.none.cons (hj.at bP (QA r) 74 (.tail _ (.tail _ (.head _))))).cons (hj.at bR (MA fun _ => ⟨0, 0, 0⟩) 116 (.tail _ (.head _)))).cons (hj.at b1 (MA (updQ f (j + 1) t)) 116 (.head _)))
        · cases ho
      intro L V3 hL hKq
      rw [hL 8 (by decide)] at hKq
      have hK : Kp [(b1, MA (updQ f (j + 1) t), 116), (bR, MA fun _ => ⟨0, 0, 0⟩, 116), (bP, QA r, 74)] w V3 := hKq
      clear hKq hL
      simp only [putAll, valMu, Act.put, List.setIfInBounds_toArray, List.set_cons_succ, List.set_cons_zero]
      go_wp2_with fail
      refine ⟨⟨j + 1, _, by omega, by go_num, fun i hi => ?_, hK⟩, by simp [intOf]; omega⟩
      unfold updQ
      by_cases e : i = j + 1
      · rw [if_pos e, e, ← Ht.out, Hf.out j (Nat.le_refl _)]; rfl
      · rw [if_neg e]; exact Hf.out i (by omega)
    · have hki : ¬ ((j + 1 : Nat) : Int) < 16 := by omega
      have He : Hid (MA f = MA (mulT r)) := MA_ext fun k hk => Hf.out k (by omega)
      go_upto_region 6 with fail
      go_wp2_with (first
        | refine wpList_load_own (by rfl) 116 (.tmp 3) (by rfl) b1 (by rfl) (MA f) _ (hK.at b1 (MA f) 116 (.head _)) Tryz.underlying116 (by rfl) (MA_info _) ?_
        | refine wpList_store_own (op := { dst := none, op := _, type := _, pos := _, after := _, guard := _ }) rfl 116 (.tmp 2) (.tmp 19) rfl bR 0 (MA f) (by rfl) (by rfl) (hK.at bR (MA fun _ => ⟨0, 0, 0⟩) 116 (.tail _ (.head _))) (MA_le _ _) (MA_info _) (MA_one _) (by rfl) ?_)
      exact bodyPost_ret (results_own Tryz.results88 _ _ bR (MA f) _ (by rfl) (own_setCells (hK.at bR (MA fun _ => ⟨0, 0, 0⟩) 116 (.tail _ (.head _))) (MA_sizes _ _)) Tryz.underlying116 rfl (MA_info _)) rfl ⟨by rw [He.out], Below.setCells _ _ _ _ le_bR.out hK.2⟩
end Go.Proofs.YtgibllaifnnfkaaGreatDoor
namespace Go.Proofs.YtgibllaifnnfkaaGreatDoor
open Go Go.RowKit
theorem times_top {n : Nat} {P : Pt E5} (hn : n < R256) : Ok3 (Pt.times (n / 256 ^ 32) P) ⟨0, 1, 1⟩ := by
  have e : R256 = 256 ^ 32 := by decide
  rw [Nat.div_eq_of_lt (e ▸ hn)]
  exact Ok3.zero
set_option maxRecDepth 100000 in
set_option maxHeartbeats 4000000 in
theorem mtimes_at {P : Pt E5} {r : N3} {n : Nat} (hn : Hid (n < R256)) (hr : Ok3 P r) (w : World) (hT : TC w) : Calls Tryz.prog 49 #[.agg (B32 (bdig n)), .agg (QA r)] w fun x w' => ∃ c, x = .returned (.agg (QA c)) ∧ Ok3 (Pt.times n P) c ∧ Below w.heap.size w w' := by
  have hzP := (zero_of_info zeroQA).1
  have hzM := (zero_of_info zeroMA).1
  obtain ⟨g, Hg⟩ : ∃ g, Hid (mulT r = g) := ⟨_, rfl⟩
  go_enter Tryz.func49, Tryz.ntmps49
  go_upto_region 1 with fail
  have hK := (((Kp.nil w).alloc (B32 (bdig n)) 22).alloc (QA r) 74).alloc (QA ⟨0, 0, 0⟩) 74
  rw [World.size_alloc, World.size_alloc] at hK
  generalize ((w.alloc (.cells (B32 (bdig n)) 22)).alloc (.cells (QA r) 74)).alloc (.cells (QA ⟨0, 0, 0⟩) 74) = W at *
  obtain ⟨bN, HbN⟩ : ∃ b, Hid (w.heap.size = b) := ⟨_, rfl⟩
  obtain ⟨bP, HbP⟩ : ∃ b, Hid (bN + 1 = b) := ⟨_, rfl⟩
  obtain ⟨bR, HbR⟩ : ∃ b, Hid (bP + 1 = b) := ⟨_, rfl⟩
  have le_bN : Hid (w.heap.size ≤ bN) := by show _ ≤ _; have := HbN.out; omega
  have le_bP : Hid (w.heap.size ≤ bP) := by show _ ≤ _; have := HbN.out; have := HbP.out; omega
  have le_bR : Hid (w.heap.size ≤ bR) := by show _ ≤ _; have := HbN.out; have := HbP.out; have := HbR.out; omega
  have ne_bN_bP : Hid (bN ≠ bP) := by show _ ≠ _; have := HbP.out; omega
  have ne_bN_bR : Hid (bN ≠ bR) := by show _ ≠ _; have := HbP.out; have := HbR.out; omega
  have ne_bP_bR : Hid (bP ≠ bR) := by show _ ≠ _; have := HbR.out; omega
  rw [HbN.out, HbP.out, HbR.out] at hK ⊢
  go_wp2_with (refine wpList_load_own (by rfl) 74 (.tmp 3) (by rfl) bP (by rfl) (QA r) _ (hK.at bP (QA r) 74 (.tail _ (.head _))) Tryz.underlying74 (by rfl) (QA_info _) ?_)
  refine (multiples_at hr Hg.out _ (TC.keep hT hK.2)).mono ?_
  rintro e V1 ⟨rfl, bw⟩
  have hK := hK.below bw
  clear bw
  go_upto_region 2 with (refine wpList_store_new (by rfl) 116 (.tmp 5) (.tmp 9) (by rfl) _ (MA g) (by rfl) (by rfl) (MA_info _) (MA_sizes _ _) (MA_one _) (by rfl) ?_)
  have lt_bR := (hK.at bR (QA ⟨0, 0, 0⟩) 74 (.head _)).lt
  have lt_bP := (hK.at bP (QA r) 74 (.tail _ (.head _))).lt
  have lt_bN := (hK.at bN (B32 (bdig n)) 22 (.tail _ (.tail _ (.head _)))).lt
  have le_b2 := show Hid _ from hK.2.size
  have hK := hK.alloc (MA g) 116
  generalize V1.alloc (.cells (MA g) 116) = V3 at *
  obtain ⟨b2, Hb2⟩ : ∃ b, Hid (V1.heap.size = b) := ⟨_, rfl⟩
  have ne_bR_b2 : Hid (bR ≠ b2) := by show _ ≠ _; rw [← Hb2.out]; exact Nat.ne_of_lt lt_bR
  have ne_bP_b2 : Hid (bP ≠ b2) := by show _ ≠ _; rw [← Hb2.out]; exact Nat.ne_of_lt lt_bP
  have ne_bN_b2 : Hid (bN ≠ b2) := by show _ ≠ _; rw [← Hb2.out]; exact Nat.ne_of_lt lt_bN
  have le_b2 : Hid (w.heap.size ≤ b2) := by show _ ≤ _; rw [← Hb2.out]; exact le_b2.out
  rw [Hb2.out] at hK ⊢
  clear lt_bR lt_bP lt_bN
  go_upto_region 3 with (first
    | refine wpList_load_n (by rfl) (by rfl) (TC.keep hT hK.2) ?_
    | refine wpList_store_new (by rfl) 74 (.tmp 6) (.tmp 10) (by rfl) _ (QA ⟨0, 1, 1⟩) (by rfl) (by rfl) (QA_info _) (QA_sizes _ _) (QA_one _) (by rfl) ?_)
  have lt_b2 := (hK.at b2 (MA g) 116 (.head _)).lt
  have lt_bR := (hK.at bR (QA ⟨0, 0, 0⟩) 74 (.tail _ (.head _))).lt
  have lt_bP := (hK.at bP (QA r) 74 (.tail _ (.tail _ (.head _)))).lt
  have lt_bN := (hK.at bN (B32 (bdig n)) 22 (.tail _ (.tail _ (.tail _ (.head _))))).lt
  have le_b4 := show Hid _ from hK.2.size
  have hK := hK.alloc (QA ⟨0, 1, 1⟩) 74
  generalize V3.alloc (.cells (QA ⟨0, 1, 1⟩) 74) = V5 at *
  obtain ⟨b4, Hb4⟩ : ∃ b, Hid (V3.heap.size = b) := ⟨_, rfl⟩
  have ne_b2_b4 : Hid (b2 ≠ b4) := by show _ ≠ _; rw [← Hb4.out]; exact Nat.ne_of_lt lt_b2
  have ne_bR_b4 : Hid (bR ≠ b4) := by show _ ≠ _; rw [← Hb4.out]; exact Nat.ne_of_lt lt_bR
  have ne_bP_b4 : Hid (bP ≠ b4) := by show _ ≠ _; rw [← Hb4.out]; exact Nat.ne_of_lt lt_bP
  have ne_bN_b4 : Hid (bN ≠ b4) := by show _ ≠ _; rw [← Hb4.out]; exact Nat.ne_of_lt lt_bN
  have le_b4 : Hid (w.heap.size ≤ b4) := by show _ ≤ _; rw [← Hb4.out]; exact le_b4.out
  rw [Hb4.out] at hK ⊢
  clear lt_b2 lt_bR lt_bP lt_bN
  go_wp2_with fail
  have hK0 : Kp [(b4, QA ⟨0, 1, 1⟩, 74), (b2, MA g, 116), (bN, B32 (bdig n), 22), (bR, QA ⟨0, 0, 0⟩, 74)] w V5 := ((((hK.none.cons (hK.at bR (QA ⟨0, 0, 0⟩) 74 (.tail _ (.tail _ (.head _))))).cons (hK.at bN (B32 (bdig n)) 22 (.tail _ (.tail _ (.tail _ (.tail _ (.head _))))))).cons (hK.at b2 (MA g) 116 (.tail _ (.head _)))).cons (hK.at b4 (QA ⟨0, 1, 1⟩) 74 (.head _)))
  go_loopw [7] (fun ii wr => ∃ (k : Nat) (t : N3), k ≤ 32 ∧ ii = .int .i64 ((k : Int) - 1) ∧ Hid (Ok3 (Pt.times (n / 256 ^ k) P) t) ∧ Kp [(b4, QA t, 74), (b2, MA g, 116), (bN, B32 (bdig n), 22), (bR, QA ⟨0, 0, 0⟩, 74)] w wr) (fun ii _ => (intOf ii + 1).toNat)
  case atStart => exact ⟨32, _, by omega, rfl, times_top hn.out, hK0⟩
  case round =>
    obtain ⟨k, t, hk, rfl, Hso, hK⟩ := hrel
    rcases k with _ | j
    · have Hn : Hid (Ok3 (Pt.times n P) t) := by have := Hso.out; rw [Nat.pow_zero, Nat.div_one] at this; exact this
      go_upto_region 8 with fail
      go_wp2_with (first
        | refine wpList_load_own (by rfl) 74 (.tmp 6) (by rfl) b4 (by rfl) (QA t) _ (hK.at b4 (QA t) 74 (.head _)) Tryz.underlying74 (by rfl) (QA_info _) ?_
        | refine wpList_store_own (op := { dst := none, op := _, type := _, pos := _, after := _, guard := _ }) rfl 74 (.tmp 4) (.tmp 33) rfl bR 0 (QA t) (by rfl) (by rfl) (hK.at bR (QA ⟨0, 0, 0⟩) 74 (.tail _ (.tail _ (.tail _ (.head _))))) (QA_le _ _) (QA_info _) (QA_one _) (by rfl) ?_)
      exact bodyPost_ret (results_own Tryz.results49 _ _ bR (QA t) _ (by rfl) (own_setCells (hK.at bR (QA ⟨0, 0, 0⟩) 74 (.tail _ (.tail _ (.tail _ (.head _))))) (QA_sizes _ _)) Tryz.underlying74 rfl (QA_info _)) rfl ⟨t, rfl, Hn.out, Below.setCells _ _ _ _ le_bR.out hK.2⟩
    · have ej : ((j + 1 : Nat) : Int) - 1 = (j : Int) := by omega
      rw [ej]
      clear ej
      have hj0 : (0 : Int) ≤ (j : Int) := by omega
      have h32 : Hid (j < 32) := by show _ < _; omega
      obtain ⟨dq, Hdq⟩ : ∃ d, Hid (bdig n j = d) := ⟨_, rfl⟩
      have ldq : Hid (dq < 256) := by show _ < _; rw [← Hdq.out]; exact bdig_lt _ _
      have h16h : Hid (dq / 16 < 16) := by show _ < _; have := ldq.out; omega
      have h16l : Hid (dq % 16 < 16) := by show _ < _; omega
      obtain ⟨u, Hu⟩ : ∃ z, Hid (iterD t 4 = z) := ⟨_, rfl⟩
      obtain ⟨s, Hs⟩ : ∃ z, Hid (sum3 u (g (dq / 16)) = z) := ⟨_, rfl⟩
      have Hs1 : Hid (Ok3 (Pt.times (n / (256 ^ j * 16)) P) s) := Ok3.step Hso.out Hu.out hr (by rw [← Hg.out] at Hs; exact Hs.out) (by rw [← Hdq.out]; exact nib_hi n j)
      obtain ⟨v, Hv⟩ : ∃ z, Hid (iterD s 4 = z) := ⟨_, rfl⟩
      obtain ⟨q, Hq⟩ : ∃ z, Hid (sum3 v (g (dq % 16)) = z) := ⟨_, rfl⟩
      have Hq1 : Hid (Ok3 (Pt.times (n / 256 ^ j) P) q) := Ok3.step Hs1.out Hv.out hr (by rw [← Hg.out] at Hq; exact Hq.out) (by rw [← Hdq.out]; exact nib_lo n j)
      have Hu1 := show Hid _ from Hu.out ▸ Hso.out.dbls 4
      have Hv1 := show Hid _ from Hv.out ▸ Hs1.out.dbls 4
      have Hgo : Hid (∀ d, Ok3 (Pt.times d P) (g d)) := fun d => by rw [← Hg.out]; exact hr.some d
      go_upto_region 6 with fail
      refine wp_region_lv 34 (fun L => [(b4, if L 9 = true then QA s else QA t, 74), (b2, MA g, 116), (bN, B32 (bdig n), 22), (bR, QA ⟨0, 0, 0⟩, 74)]) [.v (.agg (QA t)), .v (.agg (QA u)), .v (.int .i64 ((j : Int))), .v (.pointer (some ⟨bN, j, none⟩)), .v (.int .u8 ((dq : Int))), .v (.int .u8 (((dq / 16 : Nat) : Int))), .v (.pointer (some ⟨b2, 96 * (dq / 16), none⟩)), .v (.agg (QA (g (dq / 16)))), .v (.agg (QA s)), .o] hK (by kernel_rfl) (by kernel_rfl) (by kernel_rfl) (by rfl) ?_ ?_
      · exact .c (.lq b4 9 false (fun L h => by rw [h]; exact .head _) Tryz.underlying74 rfl (QA_info _)) <| .c (.ca fun _ _ hkx => sixteen_at Hso.out Hu.out _ (TC.keep hT hkx.2)) <| .c (.p1 7 (.int .i64 ((j : Int)))) <| .c (.x [(2, .pointer (some ⟨bN, 0, none⟩)), (17, .int .i64 ((j : Int)))] fun _ _ _ _ _ hfx hkx hx => wp_index_b 2 17 rfl bN j .i64 (hfx _ (.head _)) (hfx _ (.tail _ (.head _))) h32.out (hx _ _ rfl (Below.refl _ _))) <| .c (.x [(18, .pointer (some ⟨bN, j, none⟩))] fun _ ac wc _ _ hfx hkx hx => by have f18 := hfx _ (.head _); have cq : wc.cell? ⟨bN, j, none⟩ = some (.int .u8 (dq : Int)) := (by rw [← Hdq.out]; exact (hkx.at bN (B32 (bdig n)) 22 (.tail _ (.tail _ (.head _)))).cell (B32_at (bdig n) j h32.out)); exact wp_load_b 18 rfl bN j dq f18 cq (hx _ _ rfl (Below.refl _ _))) <| .c (.x [(19, .int .u8 ((dq : Int)))] fun _ ac wc _ _ hfx hkx hx => by have f19 := hfx _ (.head _); exact wp_shr4 19 rfl dq f19 (hx _ _ rfl (Below.refl _ _))) <| .c (.x [(5, .pointer (some ⟨b2, 0, none⟩)), (20, .int .u8 (((dq / 16 : Nat) : Int)))] fun _ _ _ _ _ hfx hkx hx => wp_index_m 5 20 rfl b2 (dq / 16) .u8 (hfx _ (.head _)) (hfx _ (.tail _ (.head _))) h16h.out (hx _ _ rfl (Below.refl _ _))) <| .c (.x [(21, .pointer (some ⟨b2, 96 * (dq / 16), none⟩))] fun _ _ _ _ _ hfx hkx hx => wp_load_mid 74 (.tmp 21) rfl b2 (96 * (dq / 16)) (hfx _ (.head _)) (QA (g (dq / 16))).toList _ (MA_part g (dq / 16) h16h.out (hkx.at b2 (MA g) 116 (.tail _ (.head _)))) Tryz.underlying74 rfl (QA_len _) (hx _ _ rfl (Below.refl _ _))) <| .c (.ca fun _ _ hkx => sum_at Hu1.out (Hgo.out _) Hs.out _ (TC.keep hT hkx.2)) <| .c (.sk b4 (.hr (fun _ => rfl) (fun _ => rfl) (fun _ => fc ne_b2_b4 <| fc ne_bN_b4 <| fc ne_bR_b4 <| fn)) le_b4.out (QA_info _) (QA_one _)) .nil
      intro _ V6 hJ _
      have hK : Kp [(b4, QA s, 74), (b2, MA g, 116), (bN, B32 (bdig n), 22), (bR, QA ⟨0, 0, 0⟩, 74)] w V6 := hJ.1
      clear hJ
      simp only [putL, Lv.val, Act.put, List.setIfInBounds_toArray, List.set_cons_succ, List.set_cons_zero]
      go_upto_region 7 with fail
      refine wp_region_lv 34 (fun L => [(b4, if L 9 = true then QA q else QA s, 74), (b2, MA g, 116), (bN, B32 (bdig n), 22), (bR, QA ⟨0, 0, 0⟩, 74)]) [.v (.agg (QA s)), .v (.agg (QA v)), .v (.int .i64 ((j : Int))), .v (.pointer (some ⟨bN, j, none⟩)), .v (.int .u8 ((dq : Int))), .v (.int .u8 (((dq % 16 : Nat) : Int))), .v (.pointer (some ⟨b2, 96 * (dq % 16), none⟩)), .v (.agg (QA (g (dq % 16)))), .v (.agg (QA q)), .o] hK (by kernel_rfl) (by kernel_rfl) (by kernel_rfl) (by rfl) ?_ ?_
      · exact .c (.lq b4 9 false (fun L h => by rw [h]; exact .head _) Tryz.underlying74 rfl (QA_info _)) <| .c (.ca fun _ _ hkx => sixteen_at Hs1.out Hv.out _ (TC.keep hT hkx.2)) <| .c (.p1 7 (.int .i64 ((j : Int)))) <| .c (.x [(2, .pointer (some ⟨bN, 0, none⟩)), (26, .int .i64 ((j : Int)))] fun _ _ _ _ _ hfx hkx hx => wp_index_b 2 26 rfl bN j .i64 (hfx _ (.head _)) (hfx _ (.tail _ (.head _))) h32.out (hx _ _ rfl (Below.refl _ _))) <| .c (.x [(27, .pointer (some ⟨bN, j, none⟩))] fun _ ac wc _ _ hfx hkx hx => by have f27 := hfx _ (.head _); have cq : wc.cell? ⟨bN, j, none⟩ = some (.int .u8 (dq : Int)) := (by rw [← Hdq.out]; exact (hkx.at bN (B32 (bdig n)) 22 (.tail _ (.tail _ (.head _)))).cell (B32_at (bdig n) j h32.out)); exact wp_load_b 27 rfl bN j dq f27 cq (hx _ _ rfl (Below.refl _ _))) <| .c (.x [(28, .int .u8 ((dq : Int)))] fun _ ac wc _ _ hfx hkx hx => by have f28 := hfx _ (.head _); exact wp_and15 28 rfl dq ldq.out f28 (hx _ _ rfl (Below.refl _ _))) <| .c (.x [(5, .pointer (some ⟨b2, 0, none⟩)), (29, .int .u8 (((dq % 16 : Nat) : Int)))] fun _ _ _ _ _ hfx hkx hx => wp_index_m 5 29 rfl b2 (dq % 16) .u8 (hfx _ (.head _)) (hfx _ (.tail _ (.head _))) h16l.out (hx _ _ rfl (Below.refl _ _))) <| .c (.x [(30, .pointer (some ⟨b2, 96 * (dq % 16), none⟩))] fun _ _ _ _ _ hfx hkx hx => wp_load_mid 74 (.tmp 30) rfl b2 (96 * (dq % 16)) (hfx _ (.head _)) (QA (g (dq % 16))).toList _ (MA_part g (dq % 16) h16l.out (hkx.at b2 (MA g) 116 (.tail _ (.head _)))) Tryz.underlying74 rfl (QA_len _) (hx _ _ rfl (Below.refl _ _))) <| .c (.ca fun _ _ hkx => sum_at Hv1.out (Hgo.out _) Hq.out _ (TC.keep hT hkx.2)) <| .c (.sk b4 (.hr (fun _ => rfl) (fun _ => rfl) (fun _ => fc ne_b2_b4 <| fc ne_bN_b4 <| fc ne_bR_b4 <| fn)) le_b4.out (QA_info _) (QA_one _)) .nil
      intro _ V7 hJ _
      have hK : Kp [(b4, QA q, 74), (b2, MA g, 116), (bN, B32 (bdig n), 22), (bR, QA ⟨0, 0, 0⟩, 74)] w V7 := hJ.1
      clear hJ
      simp only [putL, Lv.val, Act.put, List.setIfInBounds_toArray, List.set_cons_succ, List.set_cons_zero]
      go_wp2_with fail
      exact ⟨⟨j, q, by omega, by go_num, Hq1.out, hK⟩, by simp [intOf]⟩
end Go.Proofs.YtgibllaifnnfkaaGreatDoor
