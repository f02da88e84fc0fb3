/- The law HeadBack, over contracts. -/
import Derived.Test.YthcmcaomnndpcaaHL4
namespace Go.Proofs.Ythcmcaomnndpcaa
open Go Go.RowKit
set_option maxRecDepth 100000 in
set_option maxHeartbeats 1000000 in
theorem hback_is {T : World → Prop} (F : Hed T) (x a b z : Int) (w : World) (hT : T w) : Calls Try.prog 4 #[.int .i64 x, .int .i64 a, .int .i64 b, .int .i64 z] w fun e w' => e = .returned (.bool true) ∧ Below w.heap.size w w' := by
  obtain ⟨mj, Hmj, hmj⟩ := left_of x 8 (by decide) (by decide)
  obtain ⟨n, Hn, hn⟩ := and_max a
  obtain ⟨k, Hk, hk⟩ := and_max b
  have hmj7 : mj ≤ 7 := by omega
  replace hn := show Hid _ from hn
  replace hk := show Hid _ from hk
  obtain ⟨X, HX⟩ : ∃ X : List Int, Hid ((7 : Int) :: hd mj n = X) := ⟨_, rfl⟩
  obtain ⟨Y, HY⟩ : ∃ X : List Int, Hid ((7 : Int) :: hd mj k = X) := ⟨_, rfl⟩
  obtain ⟨L, HL⟩ : ∃ L, Hid (1 + hsize n = L) := ⟨_, rfl⟩
  have hL : 1 ≤ L ∧ L ≤ 9 := by have := HL.out; have := hsize_le n; omega
  obtain ⟨hL1, hL9⟩ := hL
  obtain ⟨j, Hj, hj⟩ := left_of z L (by omega) (by omega)
  have bX : Hid (Bys X) := by show Bys X; rw [← HX.out]; exact fun y hy => (List.mem_cons.1 hy).elim (fun e => by rw [e]; decide) (hd_bytes hmj7 y)
  have bY : Hid (Bys Y) := by show Bys Y; rw [← HY.out]; exact fun y hy => (List.mem_cons.1 hy).elim (fun e => by rw [e]; decide) (hd_bytes hmj7 y)
  have lX : Hid (X.length = 1 + L) := by show _ = _; rw [← HX.out, List.length_cons, hd_length, HL.out]; omega
  have hg1 : Hid (hgetR X 1 = ((mj : Int), (n : Int), ((1 + L : Nat) : Int), 0)) := by
    show _ = _
    rw [← HX.out, back_got hn.out, ← HL.out]
    simp only [Prod.mk.injEq, true_and, and_true]
    omega
  have hg2 : Hid (hgetR (X.take (1 + j)) 1 = (0, 0, 0, 3)) := by
    show _ = _
    rw [← HX.out]
    exact cut_none (by rw [HL.out]; exact hj)
  have hlt : Hid (Op.bytesLess (bytesOf X) (bytesOf Y) = decide (n < k)) := by
    show _ = _
    rw [less_ahead X Y bX.out bY.out, ← HX.out, ← HY.out, ahead, ahead_hd hn.out hk.out, decide_eq_false (by decide), decide_eq_true rfl]
    rfl
  have heq : Hid (decide (X = Y) = decide (n = k)) := by
    show _ = _
    rw [decide_eq_decide, ← HX.out, ← HY.out]
    exact ⟨fun e => hd_inj hn.out hk.out (List.cons.inj e).2, fun e => by rw [e]⟩
  have hL1' : (1 : Int) ≤ (L : Int) := by omega
  have hL9' : (L : Int) ≤ 9 := by omega
  have hj' : (j : Int) < (L : Int) := by omega
  have hj0 : (0 : Int) ≤ (j : Int) := by omega
  replace Hj : wrap64 ((IntKind.u64.wrap z).tmod (1 + (L : Int) - 1)) = (j : Int) := by rw [show 1 + (L : Int) - 1 = (L : Int) by omega]; exact Hj
  go_enter Try.func4, Try.ntmps4
  go_upto_region 3 with fail
  rw [show wrap64 ((IntKind.u64.wrap x).tmod 8) = (mj : Int) from Hmj]
  generalize (IntKind.u64.wrap x).tmod 8 = x8
  generalize IntKind.u64.wrap x = x0
  clear Hmj Hn Hk
  go_wp2_with fail
  have hm7 : Txt (w.alloc (.cells #[.int .u8 7] 5)) (some ⟨w.heap.size, 0, none⟩) 1 [7] := ⟨bytesV_one w 7 (by decide), fun e => by cases e⟩
  refine (F.put mj n hmj7 hn.out _ 1 [7] (by decide) _ (F.keep _ _ hT (alloc_below w _)) hm7).mono ?_
  rintro e w1 ⟨v, rfl, hO1, hb1⟩
  rw [show [7] ++ hd mj n = X from HX.out] at hO1
  obtain ⟨a1, c1, rfl, hV1⟩ := hO1.form bX.out
  have hm1 : Txt w1 a1 c1 X := ⟨hV1, own_none hO1⟩
  have hB1 := bel (alloc_below w _) hb1
  obtain ⟨b1, o1, rfl, -⟩ := hm1.1.at 0 (by rw [lX.out]; omega)
  have hc1 : (1 : Int) + (L : Int) ≤ (c1 : Int) := by have := hm1.1.2.1; rw [lX.out] at this; omega
  rw [lX.out]
  clear hm7 hV1 hO1 hb1
  go_wp2_with fail
  have hm7 : Txt (w1.alloc (.cells #[.int .u8 7] 5)) (some ⟨w1.heap.size, 0, none⟩) 1 [7] := ⟨bytesV_one w1 7 (by decide), fun e => by cases e⟩
  refine (F.put mj k hmj7 hk.out _ 1 [7] (by decide) _ (F.keep _ _ hT (bel hB1 (alloc_below w1 _))) hm7).mono ?_
  rintro e w2 ⟨v, rfl, hO2, hb2⟩
  rw [show [7] ++ hd mj k = Y from HY.out] at hO2
  obtain ⟨a2, c2, rfl, hV2⟩ := hO2.form bY.out
  have hm2 : Txt w2 a2 c2 Y := ⟨hV2, own_none hO2⟩
  have hB12 := bel (alloc_below w1 _) hb2
  have hB2 := bel hB1 hB12
  obtain ⟨b2, o2, rfl, -⟩ := hm2.1.at 0 (by rw [← HY.out, List.length_cons]; omega)
  obtain ⟨M, HM⟩ : ∃ M, Hid (Y.length = M) := ⟨_, rfl⟩
  rw [HM.out]
  clear hm7 hV2 hO2 hb2
  go_wp2_with fail
  have hcall := F.get 1 (by decide) (by decide) _ c1 X (by rw [lX.out]; omega) w2 (F.keep _ _ hT hB2) (hm1.below hB12)
  rw [hg1.out, lX.out] at hcall
  refine hcall.mono ?_
  rintro e w3 ⟨rfl, hb3⟩
  unfold got
  have hB13 := bel hB12 hb3
  have hB3 := bel hB2 hb3
  clear hcall
  simp only []
  go_upto_region 8 with fail
  go_wp2_with fail
  have hlj : Hid ((X.take (1 + j)).length = 1 + j) := by show _ = _; rw [List.length_take, lX.out]; omega
  have hmT : Txt w3 (some ⟨b1, o1, none⟩) c1 (X.take (1 + j)) := ⟨by rw [hlj.out]; exact ((hm1.below hB13).1.take (1 + j) (by rw [lX.out]; omega)), fun e => by cases e⟩
  have hcall := F.get 1 (by decide) (by decide) _ c1 (X.take (1 + j)) (by rw [hlj.out]; omega) w3 (F.keep _ _ hT hB3) hmT
  rw [hg2.out, hlj.out] at hcall
  refine hcall.mono ?_
  rintro e w4 ⟨rfl, hb4⟩
  unfold got
  have hB14 := bel hB13 hb4
  have hB4 := bel hB3 hb4
  have hB24 := bel hb3 hb4
  clear hcall hmT
  simp only []
  go_upto_region 9 with fail
  have hcx := conv_txt (hm1.below hB14) lX.out.symm
  have hcy := conv_txt (hm2.below hB24) HM.out.symm
  have hlt2 : Op.bytesLess (strOf X).toList (strOf Y).toList = decide ((n : Int) < (k : Int)) := by rw [strOf_list, strOf_list, hlt.out, decide_eq_decide]; omega
  generalize strOf X = sx at *
  generalize strOf Y = sy at *
  go_wp2_with fail
  refine (bytes_cmp (m := X) (m' := Y) (by rw [← lX.out]; exact (hm1.below hB14).1) (by rw [← HM.out]; exact (hm2.below hB24).1)).mono ?_
  rintro e w5 ⟨rfl, hb5⟩
  have hB5 := bel hB4 hb5
  have heq2 : decide (X = Y) = ((n : Int) == (k : Int)) := by
    rw [heq.out, Bool.eq_iff_iff, decide_eq_true_iff, beq_iff_eq]
    omega
  rw [heq2]
  clear heq2 hcx hcy hlt2
  go_wp2_with fail
  refine (hwakes F w5 (F.keep _ _ hT hB5)).mono ?_
  rintro e w6 ⟨rfl, hb6⟩
  go_wp2_with fail
  go_ret
  exact ⟨rfl, bel hB5 hb6⟩
end Go.Proofs.Ythcmcaomnndpcaa
