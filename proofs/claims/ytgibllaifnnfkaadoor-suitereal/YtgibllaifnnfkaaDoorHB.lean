/- The walk of one block's mixing. -/
import Derived.Test.YtgibllaifnnfkaaDoorHA
namespace Go.Proofs.YtgibllaifnnfkaaDoor.H
open Go.RowKit

/-- The table of the rounds' words lies in block 1. -/
def TabK (w : World) : Prop := 7 < w.heap.size ∧ ∀ i, i < 80 → w.cell? ⟨7, i, none⟩ = some (.int .u64 (kays.getD i 0))
theorem TabK.below {w w' : World} (h : TabK w) (hB : Below w.heap.size w w') : TabK w' :=
  ⟨Nat.lt_of_lt_of_le h.1 hB.size, fun i hi => by rw [hB.cell (p := ⟨7, i, none⟩) h.1]; exact h.2 i hi⟩

theorem stArr_one (s : St) : (stArr s).all (·.oneCell') = true := by simp [stArr, Value.oneCell']
theorem info36 : (Tryd.prog.info? 58).map (·.size) = some 8 := by kernel_rfl
theorem info35 : (Tryd.prog.info? 57).map (·.size) = some 1 := by kernel_rfl
set_option maxRecDepth 100000 in
set_option maxHeartbeats 400000 in
theorem mix_any (b off len cap : Nat) (f : Nat → Int) (s : St) (w : World) (hl : 128 ≤ len) (hc : len ≤ cap) (hcap : cap ≤ maxLen) (hb : BytesAt w b off 128 f) (hT : TabK w) :
    Calls Tryd.prog 50 #[s.val, .slice (some ⟨b, off, none⟩) len cap] w fun e w' => e = .returned (mixS s f).val ∧ Below w.heap.size w w' := by
  unfold St.val stArr
  have hz := (zero_of_info zero43).1
  go_enter Tryd.func50, Tryd.ntmps50
  go_wp2_with fail
  refine (sched_any b off len cap f _ hl hc hcap (hb.below (((Below.refl _ _).alloc (Nat.le_refl _) _).alloc (by simp) _))).mono ?_
  rintro e w1 ⟨rfl, hB⟩
  have ws64 := wordsArr_size (sched f 80) (by rw [sched_length]; exact Nat.le_refl _)
  have hi' : (Tryd.prog.info? 102).map (·.size) = some (wordsArr (sched f 80)).size := by rw [info43, ws64]
  have h1 := wordsArr_one (sched f 80)
  have hws : ∀ i, i < 80 → (wordsArr (sched f 80))[i]? = some (.int .u64 ((sched f 80).getD i 0)) := fun i hi => wordsArr_old _ _ (by rw [sched_length]; exact hi)
  have o0 := ((own_new w _ 58).alloc _).below hB (by simp; omega)
  have o1 := (own_new (w.alloc _) _ 58).below hB (by simp)
  rw [World.size_alloc] at o1
  have hb1 : Below w.heap.size w w1 := (((Below.refl _ _).alloc (Nat.le_refl _) _).alloc (by simp) _).trans (hB.mono (by simp; omega))
  generalize wordsArr (sched f 80) = ws at *
  clear hB
  go_wp2_with (refine wpList_store_new (by rfl) 102 (.tmp 5) (.tmp 23) (by rfl) _ ws (by rfl) (by rfl) hi' (by rw [ws64]; rfl) h1 (by rfl) ?_)
  have oM := own_new w1 ws 102
  have o0 := o0.alloc (.cells ws 102)
  have o1 := o1.alloc (.cells ws 102)
  have hb2 := hb1.alloc hb1.size (.cells ws 102)
  generalize w1.alloc (.cells ws 102) = W at *
  generalize w1.heap.size = M at *
  clear hb1
  have hTW := hT.below hb2
  have c0 := o0.cell (i := 0) rfl
  have c1 := o0.cell (i := 1) rfl
  have c2 := o0.cell (i := 2) rfl
  have c3 := o0.cell (i := 3) rfl
  have c4 := o0.cell (i := 4) rfl
  have c5 := o0.cell (i := 5) rfl
  have c6 := o0.cell (i := 6) rfl
  have c7 := o0.cell (i := 7) rfl
  go_quiet (fail)
  rename Nat => n1
  go_wp2
  go_quiet (fail)
  rename Nat => n2
  go_upto_region 4 with fail
  go_wp2_with (refine wpList_load_own (by rfl) 102 (.tmp 5) (by rfl) M (by rfl) ws _ ((oM.drewN _).drewN _) Tryd.underlying102 (by rfl) hi' ?_)
  obtain ⟨wf, hwf⟩ : ∃ wf : Nat → Int, wf = fun i => (sched f 80).getD i 0 := ⟨_, rfl⟩
  have hws : ∀ i, i < 80 → ws[i]? = some (.int .u64 (wf i)) := fun i hi => by rw [hwf]; exact hws i hi
  have Hwf : Hid (wf = fun i => (sched f 80).getD i 0) := hwf
  clear hwf
  go_loop [6, 7, 8, 9, 10, 11, 12, 13, 41] (fun ra rb rc rd re rf rg rh i => ∃ (k : Nat) (r : St), k ≤ 80 ∧ Hid (r = rnds wf s k) ∧ i = .int .i64 k ∧ ra = .int .u64 r.a ∧ rb = .int .u64 r.b ∧ rc = .int .u64 r.c ∧ rd = .int .u64 r.d ∧ re = .int .u64 r.e ∧ rf = .int .u64 r.f ∧ rg = .int .u64 r.g ∧ rh = .int .u64 r.h) (fun _ _ _ _ _ _ _ _ i => 80 - (intOf i).toNat)
  case atStart => exact ⟨0, s, by omega, rfl, rfl, rfl, rfl, rfl, rfl, rfl, rfl, rfl, rfl⟩
  case round =>
    obtain ⟨k, r, hk, Hr, rfl, rfl, rfl, rfl, rfl, rfl, rfl, rfl, rfl⟩ := hrel
    by_cases hlt : k < 80
    · have hki : (k : Int) < 80 := by omega
      have hk0 : (0 : Int) ≤ (k : Int) := by omega
      have hk64 : k < ws.size := by omega
      have hw := hws k hlt
      have hidx : ∀ w', (Instr.index 102 (.agg ws) (.int .i64 (k : Int))).run Tryd.prog w' = .ok (.int .u64 (wf k)) w' := fun w' => run_index_arr Tryd.underlying102 Tryd.underlying57 info35 ws k _ hlt hw w'
      have hg := hTW.2 k hlt
      have Hst : Hid (rnds wf s (k + 1) = rnd (kays.getD k 0) (wf k) (rnds wf s k)) := rfl
      generalize kays.getD k 0 = kk at *
      generalize wf k = wk at *
      go_wp2_with (go_at_call 68; refine (rot_any _ _ _ (by decide) (by decide)).mono ?_; rintro e w' ⟨rfl, rfl⟩)
      go_roundw
      case rel => 
        exact ⟨k + 1, rnd kk wk r, by omega, by rw [Hr.out]; exact Hst.out.symm, by go_num, rfl, rfl, rfl, rfl, rfl, rfl, rfl, rfl⟩
      case measure => simp [intOf]; omega
    · have Hk : Hid (k = 80) := show k = 80 by omega
      go_upto_region 16 with fail
      go_wp2_with (refine wpList_store_own (by rfl) 58 (.tmp 4) (.tmp 139) (by rfl) (w.heap.size + 1) 0 (stArr (addSt s r)) (by rfl) (by rfl) (o1.drewN _) (Nat.le_refl _) info36 (stArr_one _) (by rfl) ?_)
      refine bodyPost_ret (results_own Tryd.results50 _ _ (w.heap.size + 1) (stArr (addSt s r)) _ rfl (own_setCells (o1.drewN _) rfl) Tryd.underlying58 rfl info36) rfl ⟨?_, ?_⟩
      · rw [Hr.out, Hk.out, Hwf.out]; rfl
      · exact Below.setCells _ _ _ _ (Nat.le_succ _) (below_drewN hb2 _)
end Go.Proofs.YtgibllaifnnfkaaDoor.H
/- The walk of the padding. -/
namespace Go.Proofs.YtgibllaifnnfkaaDoor.H
open Go.RowKit

theorem info5 : (Tryd.prog.info? 5).map (fun i => (i.zero, i.size, i.bytes)) = some (some (.int .u8 0), 1, 1) := by kernel_rfl

theorem put8_list (L1 L2 : List Value) (x : Int) (off : Nat) (h : off = L1.length) : put8 (L1 ++ (List.replicate 8 (Value.int .u8 0) ++ L2)).toArray off x 8 = (L1 ++ (u8s (be8 x) ++ L2)).toArray := by
  subst h
  simp [put8, u8s, be8, List.replicate_succ]
theorem below_grown {B : Nat} {a w w' : World} {b : Nat} (h : Below B a w) (hg : w.grownBy w' (some b)) (hB : B ≤ w.heap.size) (hb : B ≤ b) : Below B a w' :=
  h.grown hg hB (fun k e => by cases e; exact hb)

theorem pad_array (n q : Nat) (h : noughts n = q) : (u8s (padL n)).toArray = put8 (put8 ((Array.replicate (1 + q + 16) (Value.int .u8 0)).setIfInBounds 0 (Value.int .u8 128)) (1 + q) 0 8) (1 + q + 8) ((n : Int) * 8) 8 := by
  have e : (Array.replicate (1 + q + 16) (Value.int .u8 0)).setIfInBounds 0 (Value.int .u8 128) = ((Value.int .u8 128 :: List.replicate q (Value.int .u8 0)) ++ (List.replicate 8 (Value.int .u8 0) ++ (List.replicate 8 (Value.int .u8 0) ++ []))).toArray := by
    apply Array.ext'
    rw [show 1 + q + 16 = (q + 16) + 1 from by omega]
    rw [Array.toList_setIfInBounds, Array.toList_replicate, List.replicate_succ, List.set_cons_zero, List.append_nil, List.replicate_append_replicate, List.cons_append, List.replicate_append_replicate]
  rw [e, put8_list _ _ _ _ (by simp; omega)]
  have e2 : ((Value.int .u8 128 :: List.replicate q (Value.int .u8 0)) ++ (u8s (be8 0) ++ (List.replicate 8 (Value.int .u8 0) ++ []))) = ((Value.int .u8 128 :: List.replicate q (Value.int .u8 0)) ++ u8s (be8 0)) ++ (List.replicate 8 (Value.int .u8 0) ++ []) := by rw [List.append_assoc]
  rw [e2, put8_list _ _ _ _ (by simp [u8s, be8]; omega)]
  simp [padL, u8s, h]
set_option maxRecDepth 100000 in
set_option maxHeartbeats 400000 in
theorem pad_any (n : Nat) (w : World) (hn : n ≤ 16777216) :
    Calls Tryd.prog 34 #[.int .i64 n] w fun e w' => e = .returned (.slice (some ⟨w.heap.size, 0, none⟩) (padL n).length (padL n).length) ∧ Own w' w.heap.size (u8s (padL n)).toArray 5 ∧ Below w.heap.size w w' := by
  rw [padL_length]
  obtain ⟨q, hq, Hn⟩ : ∃ q : Nat, (128 - ((n : Int) % 128 + 1 + 16) % 128) % 128 = (q : Int) ∧ Hid (noughts n = q) := ⟨noughts n, by unfold noughts; omega, rfl⟩
  have hq127 : q ≤ 127 := by omega
  have Hq := show Hid _ from hq
  clear hq
  rw [Hn.out]
  go_enter Tryd.func34, Tryd.ntmps34
  go_upto_region 3 with fail
  rw [Hq.out]
  have e1 : (1 : Int) + (q : Int) + 16 = ((1 + q + 16 : Nat) : Int) := by omega
  have E1 := show Hid _ from e1
  clear e1
  go_wp2_with (first
    | (at_make; refine wpList_make_cells _ (by rfl) _ _ 23 (by rfl) 5 _ Tryd.underlying23 info5 (by rfl) .i64 .i64 _ _ (1 + q + 16) (by rfl) (by rfl) E1.out E1.out (by omega) (by unfold maxLen; omega) ?_; intro w1 ho hgr; have c0 := ho.cell (i := 0) (by simp; rfl); have f0 := ho.frozen 0)
    | (go_at_call 51; refine (mul_any _ _ (by omega) (by omega)).mono ?_; rintro e w' ⟨rfl, rfl⟩))
  clear c0 f0
  have ho := ho.setCell 0 (.int .u8 128)
  have hgr' := (Below.refl w.heap.size w).grown hgr (Nat.le_refl _) (fun k e => by cases e)
  have hB := below_grown hgr' (grown_setCell w1 w.heap.size 0 (.int .u8 128)) hgr.size (Nat.le_refl _)
  generalize w1.setCell ⟨w.heap.size, 0, none⟩ (.int .u8 128) = w2 at *
  refine (putWord_own _ _ _ _ _ _ _ _ ho (by simp) (by omega) (by omega) (by omega) (by omega)).mono ?_
  rintro e w3 ⟨rfl, ho3, hg3⟩
  have s3 : (put8 ((Array.replicate (1 + q + 16) (Value.int .u8 0)).setIfInBounds 0 (.int .u8 128)) (1 + q) 0 8).size = 1 + q + 16 := by rw [put8_size]; simp
  go_wp2_with fail
  refine (putWord_own _ _ _ _ _ _ _ _ ho3 (by rw [s3]; omega) (by omega) (by omega) (by omega) (by omega)).mono ?_
  rintro e w4 ⟨rfl, ho4, hg4⟩
  go_wp2
  go_ret
  refine ⟨rfl, ?_, below_grown (below_grown hB hg3 hB.size (Nat.le_refl _)) hg4 (Nat.le_trans hB.size hg3.size) (Nat.le_refl _)⟩
  rw [show (u8s (padL n)).toArray = _ from pad_array n q Hn.out]
  exact ho4
end Go.Proofs.YtgibllaifnnfkaaDoor.H
