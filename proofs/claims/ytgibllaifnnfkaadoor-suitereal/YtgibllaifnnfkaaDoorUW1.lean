/- The wakes of the kinds' laws, over contracts. -/
import Derived.Test.YtgibllaifnnfkaaDoorUS
namespace Go.Proofs.YtgibllaifnnfkaaDoor
open Go Go.RowKit
def wkO : Nat := 48621849481454416174631783184890647894649880757312760562656147455512366318509
theorem wkO_is : opub 1 = wkO := by decide +kernel
theorem wkO_ne : oR wkO [116] ≠ oR wkO [117] := by decide +kernel
theorem wk_other : verK 2 (pubK 2 1) [117] (sgR 2 1 [116]) (sgS 2 1 [116]) = false := by
  unfold verK
  rw [if_neg (by decide), if_pos rfl, show pubK 2 1 = opub 1 from if_neg (by decide), show sgR 2 1 [116] = oR (opub 1) [116] from if_neg (by decide), show sgS 2 1 [116] = oS (opub 1) [116] from if_neg (by decide), wkO_is]
  refine decide_eq_false fun e => wkO_ne ?_
  have h := congrArg (· % R256) e
  simp only [two_lo (oR_lt _ _)] at h
  exact h
theorem wk_pubne : pubK 2 1 ≠ 0 := by
  rw [show pubK 2 1 = opub 1 from if_neg (by decide), wkO_is]
  decide
set_option maxRecDepth 100000 in
set_option maxHeartbeats 2000000 in
theorem swakes {T : World → Prop} (F : Ste T) (w : World) (hT : T w) : Calls Tryd.prog 11 #[] w fun x w' => x = .returned (.bool true) ∧ Below w.heap.size w w' := by
  have hz := (zero_of_info zeroB32).1
  have hz64 := (zero_of_info zeroB64).1
  have z0 : B32 (bdig 0) = B32 fun _ => 0 := B32_ext fun i _ => bdig_zero i
  obtain ⟨y, Hy⟩ : ∃ y, Hid (pubK 2 1 = y) := ⟨_, rfl⟩
  obtain ⟨a, Ha⟩ : ∃ a, Hid (sgR 2 1 [116] = a) := ⟨_, rfl⟩
  obtain ⟨b, Hb⟩ : ∃ b, Hid (sgS 2 1 [116] = b) := ⟨_, rfl⟩
  have ly : Hid (y < R256) := by show _ < _; rw [← Hy.out]; exact pubK_lt (.inr rfl) 1
  have la : Hid (a < R256) := by show _ < _; rw [← Ha.out]; exact sgR_lt (.inr rfl) 1 _
  have lb : Hid (b < R256) := by show _ < _; rw [← Hb.out]; exact sgS_lt (.inr rfl) 1 _
  have hy0 : Hid (decide (y = 0) = false) := by show _ = _; rw [← Hy.out]; exact decide_eq_false wk_pubne
  have hpub : Hid (∀ w, T w → Calls Tryd.prog 5 #[.int .i64 2, .agg (B32 (bdig 1))] w fun x w' => x = .returned (.tuple #[.agg (B32 (bdig y)), .int .i64 0]) ∧ Below w.heap.size w w') := fun w hT => by rw [← Hy.out]; exact F.pub 2 (.inr rfl) 1 w hT
  have hsg : Hid (∀ a' c w, T w → Txt w a' c [116] → Calls Tryd.prog 6 #[.int .i64 2, .agg (B32 (bdig 1)), .slice a' 1 c] w fun x w' => x = .returned (.tuple #[.agg (B64 (bdig (two a b))), .int .i64 0]) ∧ Below w.heap.size w w') := fun a' c w hT hm => by rw [← Ha.out, ← Hb.out]; exact F.sgn 2 (.inr rfl) 1 a' c [116] (by decide) w hT hm
  have hsn : Hid (∀ w, T w → Calls Tryd.prog 6 #[.int .i64 3, .agg (B32 fun _ => 0), .slice none 0 0] w fun x w' => x = .returned (.tuple #[.agg (B64 fun _ => 0), .int .i64 1]) ∧ Below w.heap.size w w') := fun w hT => by have h := F.sgn_no 3 (by decide) (by decide) 0 none 0 [] (by decide) w hT (txt_nil w); rw [z0] at h; exact h
  have hv1 : Hid (∀ a' c w, T w → Txt w a' c [116] → Calls Tryd.prog 9 #[.int .i64 2, .agg (B32 (bdig y)), .slice a' 1 c, .agg (B64 (bdig (two a b)))] w fun x w' => x = .returned (.bool true) ∧ Below w.heap.size w w') := fun a' c w hT hm => by have h := F.ver 2 y a b a' c [116] ly.out la.out lb.out (by decide) w hT hm; rw [← Hy.out, ← Ha.out, ← Hb.out] at h ⊢; rw [verK_own (.inr rfl)] at h; exact h
  have hv2 : Hid (∀ a' c w, T w → Txt w a' c [117] → Calls Tryd.prog 9 #[.int .i64 2, .agg (B32 (bdig y)), .slice a' 1 c, .agg (B64 (bdig (two a b)))] w fun x w' => x = .returned (.bool false) ∧ Below w.heap.size w w') := fun a' c w hT hm => by have h := F.ver 2 y a b a' c [117] ly.out la.out lb.out (by decide) w hT hm; rw [← Hy.out, ← Ha.out, ← Hb.out] at h ⊢; rw [wk_other] at h; exact h
  clear Hy Ha Hb
  go_enter Tryd.func11, Tryd.ntmps11
  have hK := Kp.nil w
  go_upto_region 1 with fail
  refine wp_region_ls 54 (fun _ => []) [.v (.agg (B32 (bdig 1))), .v (.tuple #[.agg (B32 (bdig y)), .int .i64 0]), .v (.tuple #[.agg (B32 (bdig y)), .int .i64 0]), .v (.agg (B32 (bdig y))), .v (.int .i64 0), .mk (B32 fun _ => 0) (B32 (bdig y)) 22 6, .o, .v (.int .i64 0)] hK (by kernel_rfl) (by kernel_rfl) (by rfl) (.c .p0 <| .c (.ca fun _ w hk => hpub.out w (F.keep _ _ hT hk.2)) <| .c (.p1 9 (.tuple #[.agg (B32 (bdig y)), .int .i64 0])) <| .c (.p1 7 (.tuple #[.agg (B32 (bdig y)), .int .i64 0])) <| .c (.p1 7 (.tuple #[.agg (B32 (bdig y)), .int .i64 0])) <| .c (.al hz) <| .c (.st 5 (B32_info _) (B32_one _)) <| .c (.p1 11 (.int .i64 0)) .nil) ?_
  intro vs V1 hJ hf
  obtain ⟨g2, eg2⟩ := hf 5 _ _ rfl rfl
  obtain ⟨le_g2, ap_g2, o_g2⟩ := hJ.got 5 eg2
  have hK : Kp [(g2, B32 (bdig y), 22)] w V1 := (hJ.1.cons o_g2)
  simp only [putL, Lv.val, Nat.zero_add, Nat.reduceAdd, eg2, Act.put, List.setIfInBounds_toArray, List.set_cons_succ, List.set_cons_zero]
  clear hJ hf eg2 o_g2
  clear vs
  go_upto_region 2 with fail
  refine wp_region_ls 54 (fun _ => [(g2, B32 (bdig y), 22)]) [.v (.agg (B32 (bdig 1))), .bs [.inr (.int .u8 116)] 5, .al 1, .v (.tuple #[.agg (B64 (bdig (two a b))), .int .i64 0]), .v (.tuple #[.agg (B64 (bdig (two a b))), .int .i64 0]), .v (.agg (B64 (bdig (two a b)))), .v (.int .i64 0), .mk (B64 fun _ => 0) (B64 (bdig (two a b))) 24 8, .o, .v (.int .i64 0)] hK (by kernel_rfl) (by kernel_rfl) (by rfl) (.c .p0 <| .c (.bl Tryd.underlying23 infoE5) <| .c (.cm 1 Tryd.underlying23 Tryd.underlying5) <| .c (.cj (fun vs => #[.int .i64 2, .agg (B32 (bdig 1)), vs 2]) fun _ vs w hA => by obtain ⟨h1, e2⟩ := hA.same 2; obtain ⟨-, g, e1, ho⟩ := hA.j.bs 1 _ _ rfl h1; rw [e2, e1]; exact hsg.out _ _ w (F.keep _ _ hT hA.j.kp.2) (txt_byte ho (by decide))) <| .c (.p1 16 (.tuple #[.agg (B64 (bdig (two a b))), .int .i64 0])) <| .c (.p1 12 (.tuple #[.agg (B64 (bdig (two a b))), .int .i64 0])) <| .c (.p1 12 (.tuple #[.agg (B64 (bdig (two a b))), .int .i64 0])) <| .c (.al hz64) <| .c (.st 7 (B64_info _) (B64_one _)) <| .c (.p1 18 (.int .i64 0)) .nil) ?_
  intro vs V3 hJ hf
  obtain ⟨g4, eg4⟩ := hf 7 _ _ rfl rfl
  obtain ⟨le_g4, ap_g4, o_g4⟩ := hJ.got 7 eg4
  have hK : Kp [(g4, B64 (bdig (two a b)), 24), (g2, B32 (bdig y), 22)] w V3 := (hJ.1.cons o_g4)
  simp only [putL, Lv.val, Nat.zero_add, Nat.reduceAdd, eg4, Act.put, List.setIfInBounds_toArray, List.set_cons_succ, List.set_cons_zero]
  clear hJ hf eg4 o_g4
  generalize vs 1 = qV3_1, vs 2 = qV3_2
  clear vs
  go_upto_region 3 with fail
  refine wp_region_ls 54 (fun _ => [(g4, B64 (bdig (two a b)), 24), (g2, B32 (bdig y), 22)]) [.v (.agg (B32 fun _ => 0)), .v (.tuple #[.agg (B64 fun _ => 0), .int .i64 1]), .v (.tuple #[.agg (B64 fun _ => 0), .int .i64 1]), .v (.agg (B64 fun _ => 0)), .v (.int .i64 1), .mk (B64 fun _ => 0) (B64 fun _ => 0) 24 6, .o, .v (.int .i64 1)] hK (by kernel_rfl) (by kernel_rfl) (by rfl) (.c .p0 <| .c (.ca fun _ w hk => hsn.out w (F.keep _ _ hT hk.2)) <| .c (.p1 21 (.tuple #[.agg (B64 fun _ => 0), .int .i64 1])) <| .c (.p1 19 (.tuple #[.agg (B64 fun _ => 0), .int .i64 1])) <| .c (.p1 19 (.tuple #[.agg (B64 fun _ => 0), .int .i64 1])) <| .c (.al hz64) <| .c (.st 5 (B64_info _) (B64_one _)) <| .c (.p1 23 (.int .i64 1)) .nil) ?_
  intro vs V5 hJ hf
  obtain ⟨g6, eg6⟩ := hf 5 _ _ rfl rfl
  obtain ⟨le_g6, ap_g6, o_g6⟩ := hJ.got 5 eg6
  have hK : Kp [(g6, B64 fun _ => 0, 24), (g4, B64 (bdig (two a b)), 24), (g2, B32 (bdig y), 22)] w V5 := (hJ.1.cons o_g6)
  simp only [putL, Lv.val, Nat.zero_add, Nat.reduceAdd, eg6, Act.put, List.setIfInBounds_toArray, List.set_cons_succ, List.set_cons_zero]
  clear hJ hf eg6 o_g6
  clear vs
  go_upto_region 4 with fail
  refine wp_region_ls 54 (fun _ => [(g6, B64 fun _ => 0, 24), (g4, B64 (bdig (two a b)), 24), (g2, B32 (bdig y), 22)]) [.v (.int .i64 0), .v (.bool true), .v (.bool true), .v (.int .i64 0), .v (.bool true), .v (.bool true), .v (.bool true), .v (.int .i64 1), .v (.bool true), .v (.bool true), .v (.bool true), .v (.agg (B32 (bdig y))), .v (.agg (B32 fun _ => 0)), .v (.bool true), .v (.bool true), .v (.bool true), .v (.agg (B32 (bdig y))), .bs [.inr (.int .u8 116)] 5, .al 17, .v (.agg (B64 (bdig (two a b)))), .v (.bool true), .v (.bool true), .v (.bool true), .v (.agg (B32 (bdig y))), .bs [.inr (.int .u8 117)] 5, .al 24, .v (.agg (B64 (bdig (two a b)))), .v (.bool false), .v (.bool true), .v (.bool true), .v (.bool true)] hK (by kernel_rfl) (by kernel_rfl) (by rfl) (.c (.p1 2 (.int .i64 0)) <| .c (.p1 24 (.int .i64 0)) <| .c (.p1 25 (.bool true)) <| .c (.p1 4 (.int .i64 0)) <| .c (.p1 27 (.int .i64 0)) <| .c (.p2 26 (.bool true) 28 (.bool true)) <| .c (.p1 29 (.bool true)) <| .c (.p1 6 (.int .i64 1)) <| .c (.p1 31 (.int .i64 1)) <| .c (.p2 30 (.bool true) 32 (.bool true)) <| .c (.p1 33 (.bool true)) <| .c (.ld g2 (fun _ => (.tail _ (.tail _ (.head _)))) Tryd.underlying22 rfl (B32_info _)) <| .c .p0 <| .c (.p2 35 (.agg (B32 (bdig y))) 36 (.agg (B32 fun _ => 0)) (h := by intro ac wc f f'; have he := B32_eq y 0 ly.out (by decide) wc; rw [hy0.out, z0] at he; go_simp)) <| .c (.p2 34 (.bool true) 37 (.bool true)) <| .c (.p1 38 (.bool true)) <| .c (.ld g2 (fun _ => (.tail _ (.tail _ (.head _)))) Tryd.underlying22 rfl (B32_info _)) <| .c (.bl Tryd.underlying23 infoE5) <| .c (.cm 17 Tryd.underlying23 Tryd.underlying5) <| .c (.ld g4 (fun _ => (.tail _ (.head _))) Tryd.underlying24 rfl (B64_info _)) <| .c (.cj (fun vs => #[.int .i64 2, .agg (B32 (bdig y)), vs 18, .agg (B64 (bdig (two a b)))]) fun _ vs w hA => by obtain ⟨h1, e2⟩ := hA.same 18; obtain ⟨-, g, e1, ho⟩ := hA.j.bs 17 _ _ rfl h1; rw [e2, e1]; exact hv1.out _ _ w (F.keep _ _ hT hA.j.kp.2) (txt_byte ho (by decide))) <| .c (.p2 39 (.bool true) 44 (.bool true)) <| .c (.p1 45 (.bool true)) <| .c (.ld g2 (fun _ => (.tail _ (.tail _ (.head _)))) Tryd.underlying22 rfl (B32_info _)) <| .c (.bl Tryd.underlying23 infoE5) <| .c (.cm 24 Tryd.underlying23 Tryd.underlying5) <| .c (.ld g4 (fun _ => (.tail _ (.head _))) Tryd.underlying24 rfl (B64_info _)) <| .c (.cj (fun vs => #[.int .i64 2, .agg (B32 (bdig y)), vs 25, .agg (B64 (bdig (two a b)))]) fun _ vs w hA => by obtain ⟨h1, e2⟩ := hA.same 25; obtain ⟨-, g, e1, ho⟩ := hA.j.bs 24 _ _ rfl h1; rw [e2, e1]; exact hv2.out _ _ w (F.keep _ _ hT hA.j.kp.2) (txt_byte ho (by decide))) <| .c (.p1 51 (.bool false)) <| .c (.p2 46 (.bool true) 52 (.bool true)) <| .c (.p1 53 (.bool true)) .nil) ?_
  intro vs V7 hJ hf
  have hK : Kp [(g6, B64 fun _ => 0, 24), (g4, B64 (bdig (two a b)), 24), (g2, B32 (bdig y), 22)] w V7 := hJ.1
  clear hJ hf
  simp only [putL, Lv.val, Nat.zero_add, Nat.reduceAdd, Act.put, List.setIfInBounds_toArray, List.set_cons_succ, List.set_cons_zero]
  generalize vs 17 = qV7_17, vs 18 = qV7_18, vs 24 = qV7_24, vs 25 = qV7_25
  clear vs
  go_wp2
  go_ret
  exact ⟨rfl, hK.2⟩
end Go.Proofs.YtgibllaifnnfkaaDoor
