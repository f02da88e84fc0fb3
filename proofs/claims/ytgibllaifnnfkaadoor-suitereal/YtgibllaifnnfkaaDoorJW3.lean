/- The walk of one block's mixing. -/
import Derived.Test.YtgibllaifnnfkaaDoorJW2
namespace Go.Proofs.YtgibllaifnnfkaaDoor.J
open Go.RowKit

/-- The table of the rounds' words lies in block 1. -/
def TabK (w : World) : Prop := 5 < w.heap.size ∧ ∀ i, i < 64 → w.cell? ⟨5, i, none⟩ = some (.int .u32 (kays.getD i 0))
theorem TabK.below {w w' : World} (h : TabK w) (hB : Below w.heap.size w w') : TabK w' :=
  ⟨Nat.lt_of_lt_of_le h.1 hB.size, fun i hi => by rw [hB.cell (p := ⟨5, i, none⟩) h.1]; exact h.2 i hi⟩

theorem stArr_one (s : St) : (stArr s).all (·.oneCell') = true := by simp [stArr, Value.oneCell']
theorem info42 : (Tryd.prog.info? 47).map (·.size) = some 8 := by kernel_rfl
theorem info39 : (Tryd.prog.info? 46).map (·.size) = some 1 := by kernel_rfl
set_option maxRecDepth 100000 in
set_option maxHeartbeats 400000 in
theorem mix_any (b off len cap : Nat) (f : Nat → Int) (s : St) (w : World) (hl : 64 ≤ len) (hc : len ≤ cap) (hcap : cap ≤ maxLen) (hb : BytesAt w b off 64 f) (hT : TabK w) :
    Calls Tryd.prog 41 #[s.val, .slice (some ⟨b, off, none⟩) len cap] w fun e w' => e = .returned (mixS s f).val ∧ Below w.heap.size w w' := by
  unfold St.val stArr
  go_enter Tryd.func41, Tryd.ntmps41
  go_wp2_with fail
  refine (sched_any b off len cap f _ hl hc hcap (hb.below (((Below.refl _ _).alloc (Nat.le_refl _) _).alloc (by simp) _))).mono ?_
  rintro e w1 ⟨rfl, hB⟩
  have ws64 := wordsArr_size (sched f 64) (by rw [sched_length]; exact Nat.le_refl _)
  have hi' : (Tryd.prog.info? 93).map (·.size) = some (wordsArr (sched f 64)).size := by rw [info40, ws64]
  have h1 := wordsArr_one (sched f 64)
  have hws : ∀ i, i < 64 → (wordsArr (sched f 64))[i]? = some (.int .u32 ((sched f 64).getD i 0)) := fun i hi => wordsArr_old _ _ (by rw [sched_length]; exact hi)
  have o0 := ((own_new w _ 47).alloc _).below hB (by simp; omega)
  have o1 := (own_new (w.alloc _) _ 47).below hB (by simp)
  rw [World.size_alloc] at o1
  have hb1 : Below w.heap.size w w1 := (((Below.refl _ _).alloc (Nat.le_refl _) _).alloc (by simp) _).trans (hB.mono (by simp; omega))
  generalize wordsArr (sched f 64) = ws at *
  clear hB
  go_wp2_with (refine wpList_store_new (by rfl) 93 (.tmp 5) (.tmp 23) (by rfl) _ ws (by rfl) (by rfl) hi' (by rw [ws64]; rfl) h1 (by rfl) ?_)
  have oM := own_new w1 ws 93
  have o0 := o0.alloc (.cells ws 93)
  have o1 := o1.alloc (.cells ws 93)
  have hb2 := hb1.alloc hb1.size (.cells ws 93)
  generalize w1.alloc (.cells ws 93) = W at *
  generalize w1.heap.size = M at *
  clear hb1
  have hTW := hT.below hb2
  have c0 := o0.cell (i := 0) rfl
  have c1 := o0.cell (i := 1) rfl
  have c2 := o0.cell (i := 2) rfl
  have c3 := o0.cell (i := 3) rfl
  have c4 := o0.cell (i := 4) rfl
  have c5 := o0.cell (i := 5) rfl
  have c6 := o0.cell (i := 6) rfl
  have c7 := o0.cell (i := 7) rfl
  go_quiet (fail)
  rename Nat => n1
  go_wp2
  go_quiet (fail)
  rename Nat => n2
  go_upto_region 4 with fail
  go_wp2_with (refine wpList_load_own (by rfl) 93 (.tmp 5) (by rfl) M (by rfl) ws _ ((oM.drewN _).drewN _) Tryd.underlying93 (by rfl) hi' ?_)
  obtain ⟨wf, hwf⟩ : ∃ wf : Nat → Int, wf = fun i => (sched f 64).getD i 0 := ⟨_, rfl⟩
  have hws : ∀ i, i < 64 → ws[i]? = some (.int .u32 (wf i)) := fun i hi => by rw [hwf]; exact hws i hi
  have Hwf : Hid (wf = fun i => (sched f 64).getD i 0) := hwf
  clear hwf
  go_loop [6, 7, 8, 9, 10, 11, 12, 13, 41] (fun ra rb rc rd re rf rg rh i => ∃ (k : Nat) (r : St), k ≤ 64 ∧ Hid (r = rnds wf s k) ∧ i = .int .i64 k ∧ ra = .int .u32 r.a ∧ rb = .int .u32 r.b ∧ rc = .int .u32 r.c ∧ rd = .int .u32 r.d ∧ re = .int .u32 r.e ∧ rf = .int .u32 r.f ∧ rg = .int .u32 r.g ∧ rh = .int .u32 r.h) (fun _ _ _ _ _ _ _ _ i => 64 - (intOf i).toNat)
  case atStart => exact ⟨0, s, by omega, rfl, rfl, rfl, rfl, rfl, rfl, rfl, rfl, rfl, rfl⟩
  case round =>
    obtain ⟨k, r, hk, Hr, rfl, rfl, rfl, rfl, rfl, rfl, rfl, rfl, rfl⟩ := hrel
    by_cases hlt : k < 64
    · have hki : (k : Int) < 64 := by omega
      have hk0 : (0 : Int) ≤ (k : Int) := by omega
      have hk64 : k < ws.size := by omega
      have hw := hws k hlt
      have hidx : ∀ w', (Instr.index 93 (.agg ws) (.int .i64 (k : Int))).run Tryd.prog w' = .ok (.int .u32 (wf k)) w' := fun w' => run_index_arr Tryd.underlying93 Tryd.underlying46 info39 ws k _ hlt hw w'
      have hg := hTW.2 k hlt
      have Hst : Hid (rnds wf s (k + 1) = rnd (kays.getD k 0) (wf k) (rnds wf s k)) := rfl
      generalize kays.getD k 0 = kk at *
      generalize wf k = wk at *
      go_wp2_with (go_at_call 59; refine (rot_any _ _ _ (by decide) (by decide)).mono ?_; rintro e w' ⟨rfl, rfl⟩)
      go_roundw
      case rel => 
        exact ⟨k + 1, rnd kk wk r, by omega, by rw [Hr.out]; exact Hst.out.symm, by go_num, rfl, rfl, rfl, rfl, rfl, rfl, rfl, rfl⟩
      case measure => simp [intOf]; omega
    · have Hk : Hid (k = 64) := show k = 64 by omega
      go_upto_region 16 with fail
      go_wp2_with (refine wpList_store_own (by rfl) 47 (.tmp 4) (.tmp 139) (by rfl) (w.heap.size + 1) 0 (stArr (addSt s r)) (by rfl) (by rfl) (o1.drewN _) (Nat.le_refl _) info42 (stArr_one _) (by rfl) ?_)
      refine bodyPost_ret (results_own Tryd.results41 _ _ (w.heap.size + 1) (stArr (addSt s r)) _ rfl (own_setCells (o1.drewN _) rfl) Tryd.underlying47 rfl info42) rfl ⟨?_, ?_⟩
      · rw [Hr.out, Hk.out, Hwf.out]; rfl
      · exact Below.setCells _ _ _ _ (Nat.le_succ _) (below_drewN hb2 _)
end Go.Proofs.YtgibllaifnnfkaaDoor.J
