/- Of the texts Z4, Z5: what the card of this claim reaches. -/
import Derived.Test.YtgibllaifnnfkaaGreatDoorXE19
import Derived.Test.YtgibllaifnnfkaaGreatDoorXE3
import Derived.Test.YtgibllaifnnfkaaGreatDoorXE4
namespace Go.Proofs.YtgibllaifnnfkaaGreatDoor
open Go.RowKit
theorem infoU8 : (Tryz.prog.info? 5).map (·.size) = some 1 := by kernel_rfl
theorem infoA8' : (Tryz.prog.info? 80).map (·.size) = some 8 := by kernel_rfl
theorem zeroA8' : (Tryz.prog.info? 80).map (fun i => (i.zero, i.size)) = some (some (.agg (A8 fun _ => 0)), 8) := by kernel_rfl
theorem Kp.row {l : List (Nat × Array Value × TypeId)} {w0 w : World} {b : Nat} {A A' : Array Value} {t : TypeId} (h : Kp ((b, A, t) :: l) w0 w) (hl : ∀ p ∈ l, p.1 ≠ b) (hb : w0.heap.size ≤ b) : Kp ((b, A', t) :: l) w0 (w.setRow b A') := by
  refine ⟨fun p hp => ?_, below_setRow h.2 hb _⟩
  rcases List.mem_cons.1 hp with rfl | hp
  · exact setRow_heap w b _ _ t _ (h.at b A t (.head _))
  · exact (setRow_other w b p.1 A' (hl p hp)).trans (h.1 p (by simp [hp]))
theorem wp_copy_row {P : Program} {o : Oper} {a : Act} {w : World} {K : Act → World → Prop} {Q : Exit → Act → World → Prop} (d s : Operand) (dT sT : TypeId)
    (ho : o.op = .call { callee := .builtin .copy, args := #[d, s], argTypes := #[dT, sT] }) (elem : TypeId) (hu : P.underlying dT = some (.slice elem)) (hsz : (P.info? elem).map (·.size) = some 1)
    (g dLen dCap b sLen sCap : Nat) (hd : a.eval d = .slice (some ⟨g, 0, none⟩) dLen dCap) (hs : a.eval s = .slice (some ⟨b, 0, none⟩) sLen sCap)
    {A S : Array Value} {t t' : TypeId} (hg : Own w g A t) (hS : Own w b S t') (hn : S.size = Nat.min sLen dLen) (hfit : S.size ≤ A.size) (h1 : S.all (·.oneCell') = true)
    (h : K (a.put o.dst (goInt S.size)) (w.setRow g (S.toList ++ A.toList.drop S.size).toArray)) : o.wp P a w K Q := by
  have hrun := run_copy_row (P := P) w dT sT o.type elem g 0 dLen dCap ⟨b, 0, none⟩ sLen sCap A t S.toList hu hsz hg (by simpa using hn) (fun j v hv => by rw [Addr.add_mid]; exact hS.range j v hv) (by simpa using hfit) (fun v hv => by
    have := Array.all_eq_true_iff_forall_mem.1 h1 v (by simpa using hv)
    exact this)
  unfold Oper.wp
  simp [execOp, ho, resolve, invoke, builtin, hd, hs, hrun, Result.andThen]
  exact h
theorem bdig_above {a i : Nat} (ha : a < R256) (hi : 32 ≤ i) : bdig a i = 0 := by
  unfold bdig
  have h1 : 256 ^ 32 ≤ 256 ^ i := Nat.pow_le_pow_right (by decide) hi
  have h2 : (256 : Nat) ^ 32 = R256 := by decide
  rw [h2] at h1
  rw [Nat.div_eq_of_lt (Nat.lt_of_lt_of_le ha h1), Nat.zero_mod]
theorem mod_join (a : Nat) (ha : a < R256) : ((B32 (bdig a)).toList ++ (B64 fun _ => 0).toList.drop 32).toArray = B64 (bdig a) := by
  apply Array.ext_getElem?
  intro i
  by_cases hi : i < 64
  · rw [B64_at _ i hi, List.getElem?_toArray]
    by_cases h : i < 32
    · rw [List.getElem?_append_left (by simp [B32_size]; exact h)]
      simpa using B32_at (bdig a) i h
    · rw [List.getElem?_append_right (by simp [B32_size]; omega), List.getElem?_drop]
      have := B64_at (fun _ => 0) i hi
      simp only [Array.length_toList, B32_size, Array.getElem?_toList]
      rw [show 32 + (i - 32) = i by omega, this, bdig_above ha (by omega)]
  · rw [Array.getElem?_eq_none (by simp [B32_size, B64_size]; omega), Array.getElem?_eq_none (by rw [B64_size]; omega)]
theorem left_from {t : Nat} (ht : t < R512) : 0 = t / 18446744073709551616 ^ 8 % LL := by
  rw [pow8, Nat.div_eq_of_lt ht, Nat.zero_mod]
set_option maxRecDepth 100000 in
set_option maxHeartbeats 8000000 in
theorem left_any (t : Nat) (ht : t < R512) (w : World) (hT : TO w) : Calls Tryz.prog 55 #[.agg (A8 (dig t))] w fun x w' => x = .returned (.agg (numA (t % LL))) ∧ Below w.heap.size w w' := by
  obtain ⟨r, Hr⟩ : ∃ r, Hid (t % LL = r) := ⟨_, rfl⟩
  rw [Hr.out]
  have hz := (zero_of_info zeroSN).1
  go_enter Tryz.func55, Tryz.ntmps55
  go_wp2_with fail
  have hK0 := (((Kp.nil w).alloc (A8 (dig t)) 80).alloc (numA 0) 83).alloc (numA 0) 83
  rw [World.size_alloc, World.size_alloc] at hK0
  rw [← zero_num]
  generalize ((w.alloc (.cells (A8 (dig t)) 80)).alloc (.cells (numA 0) 83)).alloc (.cells (numA 0) 83) = W at *
  obtain ⟨bW, HW⟩ : ∃ bW, Hid (w.heap.size = bW) := ⟨_, rfl⟩
  obtain ⟨bR, HR⟩ : ∃ bR, Hid (bW + 1 = bR) := ⟨_, rfl⟩
  obtain ⟨bO, HO⟩ : ∃ bO, Hid (bR + 1 = bO) := ⟨_, rfl⟩
  have hleR : w.heap.size ≤ bR := by have := HW.out; have := HR.out; omega
  have hleO : w.heap.size ≤ bO := by have := HO.out; omega
  have n1 : bW ≠ bO := by have := HR.out; have := HO.out; omega
  have n2 : bR ≠ bO := by have := HO.out; omega
  rw [HW.out, HR.out, HO.out] at hK0 ⊢
  go_loopw [5] (fun ii wr => ∃ (k n : Nat), k ≤ 8 ∧ ii = .int .i64 (k : Int) ∧ n < LL ∧ Hid (n = t / 18446744073709551616 ^ (8 - k) % LL) ∧ Kp [(bO, numA n, 83), (bR, numA 0, 83), (bW, A8 (dig t), 80)] w wr) (fun ii _ => 8 - (intOf ii).toNat)
  case atStart => exact ⟨0, 0, by omega, rfl, LL_pos, left_from ht, hK0⟩
  case round =>
    obtain ⟨k, n, hk, rfl, hnL, Hn, hKr⟩ := hrel
    have hk0 : (0 : Int) ≤ (k : Int) := by omega
    by_cases hlt : k < 8
    · have hki : (k : Int) < 8 := by omega
      obtain ⟨m, Hm⟩ : ∃ m, Hid (k + m = 7) := ⟨7 - k, by show _ = _; omega⟩
      have hkm : (7 : Int) - (k : Int) = (m : Int) := by have := Hm.out; omega
      have hwm : IntKind.i64.wrap (m : Int) = (m : Int) := by have := Hm.out; simp [IntKind.wrap, IntKind.bits, IntKind.signed]; omega
      have hm8 : m < 8 := by have := Hm.out; omega
      have hm0 : (0 : Int) ≤ (m : Int) := by omega
      have hmi : (m : Int) < 8 := by omega
      obtain ⟨n', Hn'⟩ : ∃ n', Hid ((dig t m + 18446744073709551616 * n) % LL = n') := ⟨_, rfl⟩
      have hnL' : n' < LL := by rw [← Hn'.out]; exact Nat.mod_lt _ LL_pos
      have Hst : Hid (n' = t / 18446744073709551616 ^ (8 - (k + 1)) % LL) := by
        show _ = _
        have hn := Hn.out
        have hm := Hm.out
        rw [show 8 - k = m + 1 by omega] at hn
        rw [show 8 - (k + 1) = m by omega, left_step hn rfl, Hn'.out]
      go_upto_region 5 with fail
      refine wp_region_lv 16 (fun L => [(bO, if L 6 = true then numA n' else numA n, 83), (bR, numA 0, 83), (bW, A8 (dig t), 80)]) [.v (.agg (numA n)), .v (.int .i64 (k : Int)), .v (.int .i64 (m : Int)), .v (.pointer (some ⟨bW, m, none⟩)), .v (.int .u64 (dig t m : Int)), .v (.agg (numA n')), .o] hKr (by kernel_rfl) (by kernel_rfl) (by kernel_rfl) (by rfl) ?_ ?_
      · exact .c (.lq bO 6 false (fun L h => by rw [h]; exact .head _) Tryz.underlying83 rfl infoSN) <| .c (.p1 4 (.int .i64 (k : Int))) <| .c (.p1 9 (.int .i64 (k : Int))) <| .c (.p2 1 (.pointer (some ⟨bW, 0, none⟩)) 10 (.int .i64 (m : Int))) <| .c (.x [(11, .pointer (some ⟨bW, m, none⟩))] fun _ ac wc _ _ hfx hkx hx => by have f11 := hfx _ (.head _); have cW := hkx.h3.cell (A8_at (dig t) m hm8); unfold Oper.wp; go_simp; exact hx _ _ rfl (Below.refl _ _)) <| .c (.ca fun _ wc hkx => by have h := next_any n (dig t m) hnL (dig_lt _ _) wc (hT.kp hkx); rw [Hn'.out] at h; exact h) <| .c (.sk bO (.hr (fun _ => rfl) (fun _ => rfl) (fun _ => by simp; omega)) hleO infoSN (numA_one _)) .nil
      · intro _ wq hJ _
        have hKq : Kp [(bO, numA n', 83), (bR, numA 0, 83), (bW, A8 (dig t), 80)] w wq := hJ.1
        simp only [putL, Lv.val, Act.put, List.setIfInBounds_toArray, List.set_cons_succ, List.set_cons_zero]
        go_wp2_with fail
        exact ⟨⟨k + 1, n', by omega, by go_num, hnL', Hst.out, hKq⟩, by simp [intOf]; omega⟩
    · have hki : ¬ (k : Int) < 8 := by omega
      have Hend : Hid (n = r) := by
        show _ = _
        rw [Hn.out, show 8 - k = 0 by omega, Nat.pow_zero, Nat.div_one, Hr.out]
      go_upto_region 7 with fail
      go_wp2_with (first
        | refine wpList_load_own (by rfl) 83 (.tmp 3) (by rfl) bO (by rfl) (numA n) _ hKr.h1 Tryz.underlying83 (by rfl) infoSN ?_
        | refine wpList_store_own (by rfl) 83 (.tmp 2) (.tmp 15) (by rfl) bR 0 (numA n) (by rfl) (by rfl) hKr.h2 (Nat.le_refl _) infoSN (numA_one n) (by rfl) ?_)
      refine bodyPost_ret (results_own Tryz.results55 _ _ bR (numA n) _ (by rfl) (own_setCells hKr.h2 rfl) Tryz.underlying83 rfl infoSN) rfl ⟨by rw [Hend.out], ?_⟩
      exact Below.setCells _ _ _ _ hleR hKr.2
theorem word_wide (a k b o cap : Nat) (w : World) (hk : k < 8) (ho : 8 * k = o) {t : TypeId} (hO : Own w b (B64 (bdig a)) t) :
    Calls Tryz.prog 53 #[.slice (some ⟨b, o, none⟩) 8 cap] w fun r w' => r = .returned (.int .u64 (dig a k : Int)) ∧ w' = w := by
  refine (word_anyZ (fun i => bdig a (8 * k + i)) b o cap (fun i _ => bdig_lt _ _) w (fun i hi => ?_)).mono ?_
  · rw [← ho]; exact hO.cell (B64_at _ _ (by omega))
  · rintro x w' ⟨rfl, rfl⟩
    exact ⟨by rw [word_dig], rfl⟩
set_option maxRecDepth 100000 in
set_option maxHeartbeats 8000000 in
theorem swide_fn (a : Nat) (ha : a < R512) (w : World) (hT : TO w) : Calls Tryz.prog 28 #[.agg (B64 (bdig a))] w fun x w' => x = .returned (.agg (B32 (bdig (a % LL)))) ∧ Below w.heap.size w w' := by
  have hz := (zero_of_info zeroB32).1
  have hz8 := (zero_of_info zeroA8').1
  go_enter Tryz.func28, Tryz.ntmps28
  go_wp2_with fail
  have hK0 := (((Kp.nil w).alloc (B64 (bdig a)) 24).alloc (B32 fun _ => 0) 22).alloc (A8 fun _ => 0) 80
  rw [World.size_alloc, World.size_alloc] at hK0
  generalize ((w.alloc (.cells (B64 (bdig a)) 24)).alloc (.cells (B32 fun _ => 0) 22)).alloc (.cells (A8 fun _ => 0) 80) = W at *
  obtain ⟨bA, HA⟩ : ∃ bA, Hid (w.heap.size = bA) := ⟨_, rfl⟩
  obtain ⟨bR, HR⟩ : ∃ bR, Hid (bA + 1 = bR) := ⟨_, rfl⟩
  obtain ⟨bO, HO⟩ : ∃ bO, Hid (bR + 1 = bO) := ⟨_, rfl⟩
  have hleR : w.heap.size ≤ bR := by have := HA.out; have := HR.out; omega
  have hleO : w.heap.size ≤ bO := by have := HO.out; omega
  have n1 : bA ≠ bO := by have := HR.out; have := HO.out; omega
  have n2 : bR ≠ bO := by have := HO.out; omega
  rw [HA.out, HR.out, HO.out] at hK0 ⊢
  go_loopw [5] (fun ii wr => ∃ (k : Nat) (h : Nat → Nat), k ≤ 8 ∧ ii = .int .i64 (k : Int) ∧ Hid (∀ j, j < k → h j = dig a j) ∧ Kp [(bO, A8 h, 80), (bR, B32 fun _ => 0, 22), (bA, B64 (bdig a), 24)] w wr) (fun ii _ => 8 - (intOf ii).toNat)
  case atStart => exact ⟨0, fun _ => 0, by omega, rfl, show ∀ j, j < 0 → _ from fun j hj => by omega, hK0⟩
  case round =>
    obtain ⟨k, h, hk, rfl, Hh, hKr⟩ := hrel
    have hk0 : (0 : Int) ≤ (k : Int) := by omega
    by_cases hlt : k < 8
    · have hki : (k : Int) < 8 := by omega
      have h80 : (0 : Int) ≤ 8 * (k : Int) := by omega
      have h81 : 8 * (k : Int) ≤ 64 := by omega
      have h82 : 8 * (k : Int) + 8 ≤ 64 := by omega
      have h83 : 8 * (k : Int) ≤ 8 * (k : Int) + 8 := by omega
      have h84 : (8 * (k : Int) + 8 - 8 * (k : Int)).toNat = 8 := by omega
      have h85 : (8 * (k : Int)).toNat = 8 * k := by omega
      have h86 : (8 * (k : Int) + 8).toNat = 8 * k + 8 := by omega
      go_upto_region 5 with fail
      go_wp2_with fail
      refine (word_wide a k bA (8 * k) _ _ hlt rfl hKr.h3).mono ?_
      rintro x w' ⟨rfl, rfl⟩
      have cO := hKr.h1.cell (A8_at h k hlt)
      have fO := hKr.h1.frozen k
      have hK1 := Kp.setCell (i := k) (v := .int .u64 (dig a k : Int)) hKr (by simp; omega) hleO
      rw [A8_set h k (dig a k) hlt] at hK1
      go_wp2_with fail
      refine ⟨⟨k + 1, upd h k (dig a k), by omega, by go_num, show ∀ j, j < k + 1 → _ from fun j hj => ?_, hK1⟩, by simp [intOf]; omega⟩
      by_cases e : j = k
      · rw [e, upd_same]
      · rw [upd_other _ _ _ _ e]; exact Hh.out j (by omega)
    · have hki : ¬ (k : Int) < 8 := by omega
      have hA : A8 h = A8 (dig a) := A8_congr fun i hi => Hh.out i (by omega)
      rw [hA] at hKr
      clear hA Hh
      go_upto_region 7 with fail
      go_wp2_with (refine wpList_load_own (by rfl) 80 (.tmp 3) (by rfl) bO (by rfl) (A8 (dig a)) _ hKr.h1 Tryz.underlying80 (by rfl) infoA8' ?_)
      refine (left_any a ha _ (hT.kp hKr)).mono ?_
      rintro x w1 ⟨rfl, b1⟩
      have hK1 := hKr.below b1
      go_wp2_with fail
      refine (write_anyZ _ _).mono ?_
      rintro x w2 ⟨rfl, b2⟩
      have hK2 := hK1.below b2
      go_wp2_with (refine wpList_store_own (by rfl) 22 (.tmp 2) (.tmp 20) (by rfl) bR 0 (B32 (bdig (a % LL))) (by rfl) (by rfl) hK2.h2 (B32_le _ _) (B32_info _) (B32_one _) (by rfl) ?_)
      exact bodyPost_ret (results_own Tryz.results28 _ _ bR (B32 (bdig (a % LL))) _ (by rfl) (own_setCells hK2.h2 (B32_sizes _ _)) Tryz.underlying22 rfl (B32_info _)) rfl ⟨rfl, Below.setCells _ _ _ _ hleR hK2.2⟩
def valMod (bW bA : Nat) : Nat → Value
  | 0 => .slice (some ⟨bW, 0, none⟩) 64 64
  | 1 => .slice (some ⟨bA, 0, none⟩) 32 32
  | 2 => .int .i64 32
  | _ => undef
set_option maxRecDepth 100000 in
set_option maxHeartbeats 8000000 in
theorem smod_any (a : Nat) (ha : a < R256) (w : World) (hT : TO w) : Calls Tryz.prog 61 #[.agg (B32 (bdig a))] w fun x w' => x = .returned (.agg (B32 (bdig (a % LL)))) ∧ Below w.heap.size w w' := by
  have hz := (zero_of_info zeroB32).1
  have hzW := (zero_of_info zeroB64).1
  go_enter Tryz.func61, Tryz.ntmps61
  go_upto_region 2 with fail
  have hK := (((Kp.nil w).alloc (B32 (bdig a)) 22).alloc (B32 fun _ => 0) 22).alloc (B64 fun _ => 0) 24
  rw [World.size_alloc, World.size_alloc] at hK
  generalize ((w.alloc (.cells (B32 (bdig a)) 22)).alloc (.cells (B32 fun _ => 0) 22)).alloc (.cells (B64 fun _ => 0) 24) = W at *
  obtain ⟨bA, HA⟩ : ∃ bA, Hid (w.heap.size = bA) := ⟨_, rfl⟩
  obtain ⟨bR, HR⟩ : ∃ bR, Hid (bA + 1 = bR) := ⟨_, rfl⟩
  obtain ⟨bW, HW⟩ : ∃ bW, Hid (bR + 1 = bW) := ⟨_, rfl⟩
  have hleR : w.heap.size ≤ bR := by have := HA.out; have := HR.out; omega
  have hleW : w.heap.size ≤ bW := by have := HW.out; omega
  have n1 : bA ≠ bW := by have := HR.out; have := HW.out; omega
  have n2 : bR ≠ bW := by have := HW.out; omega
  rw [HA.out, HR.out, HW.out] at hK ⊢
  refine wp_region_vals 9 (by kernel_rfl) (by kernel_rfl) (by rfl) (valMod bW bA) (fun L => Kp [(bW, if L 2 = true then B64 (bdig a) else B64 fun _ => 0, 24), (bR, B32 fun _ => 0, 22), (bA, B32 (bdig a), 22)] w) hK.drew ?_ ?_
  · intro L ac wc i o hF hLi ho hd K hK
    rcases i with _ | _ | _ | i
    · have ho' := ho
      obtain rfl := Option.some.inj ho
      have f3 : ac.tmps.getD 3 undef = .pointer (some ⟨bW, 0, none⟩) := slotv hF 0 hLi 3 (by kernel_rfl)
      refine step_do ho' (wanted_free rfl) ?_
      unfold Oper.wp
      go_simp
      exact hK _ _ (.inr rfl) hF.j
    · have ho' := ho
      obtain rfl := Option.some.inj ho
      have f1 : ac.tmps.getD 1 undef = .pointer (some ⟨bA, 0, none⟩) := slotv hF 1 hLi 1 (by kernel_rfl)
      refine step_do ho' (wanted_free rfl) ?_
      unfold Oper.wp
      go_simp
      exact hK _ _ (.inr rfl) hF.j
    · have ho' := ho
      obtain rfl := Option.some.inj ho
      have f4 : ac.tmps.getD 4 undef = .slice (some ⟨bW, 0, none⟩) 64 64 := valv hF hd 0 rfl rfl (by kernel_rfl)
      have f5 : ac.tmps.getD 5 undef = .slice (some ⟨bA, 0, none⟩) 32 32 := valv hF hd 1 rfl rfl (by kernel_rfl)
      refine step_do ho' (wanted_free rfl) ?_
      have hj := hF.j
      rw [hLi] at hj
      have hj : Kp [(bW, B64 fun _ => 0, 24), (bR, B32 fun _ => 0, 22), (bA, B32 (bdig a), 22)] w wc := hj
      refine wp_copy_row (.tmp 4) (.tmp 5) 23 23 rfl 5 Tryz.underlying23 infoU8 bW 64 64 bA 32 32 f4 f5 hj.h1 hj.h3 (by rw [B32_size]; rfl) (by rw [B32_size, B64_size]; decide) (B32_one _) ?_
      rw [B32_size, mod_join a ha]
      exact hK _ _ (.inr rfl) (Kp.row hj (by simp; omega) hleW)
    · cases ho
  · intro L wq hL hKq
    rw [hL 2 (by decide)] at hKq
    simp only [putAll, valMod, Act.put, List.setIfInBounds_toArray, List.set_cons_succ, List.set_cons_zero]
    go_wp2_with (refine wpList_load_own (by rfl) 24 (.tmp 3) (by rfl) bW (by rfl) (B64 (bdig a)) _ hKq.h1 Tryz.underlying24 (by rfl) (B64_info _) ?_)
    refine (swide_fn a (small_big ha) _ (hT.kp hKq)).mono ?_
    rintro x w1 ⟨rfl, b1⟩
    have hK1 := hKq.below b1
    go_wp2_with (refine wpList_store_own (by rfl) 22 (.tmp 2) (.tmp 8) (by rfl) bR 0 (B32 (bdig (a % LL))) (by rfl) (by rfl) hK1.h2 (B32_le _ _) (B32_info _) (B32_one _) (by rfl) ?_)
    exact bodyPost_ret (results_own Tryz.results61 _ _ bR (B32 (bdig (a % LL))) _ (by rfl) (own_setCells hK1.h2 (B32_sizes _ _)) Tryz.underlying22 rfl (B32_info _)) rfl ⟨rfl, Below.setCells _ _ _ _ hleR hK1.2⟩
set_option maxRecDepth 100000 in
set_option maxHeartbeats 4000000 in
theorem scheck_any (a : Nat) (ha : a < R256) (w : World) (hT : TO w) : Calls Tryz.prog 32 #[.agg (B32 (bdig a))] w fun x w' => x = .returned (.bool (decide (a < LL))) ∧ Below w.heap.size w w' := by
  have hz := (zero_of_info zeroB32).1
  have Hd : Hid (decide (a % LL = a) = decide (a < LL)) := by
    show _ = _
    rw [decide_eq_decide]
    exact ⟨fun h => h ▸ Nat.mod_lt _ LL_pos, fun h => Nat.mod_eq_of_lt h⟩
  go_enter Tryz.func32, Tryz.ntmps32
  go_upto_region 1 with fail
  have hK := (Kp.nil w).alloc (B32 (bdig a)) 22
  generalize w.alloc (.cells (B32 (bdig a)) 22) = W at *
  obtain ⟨bA, H1⟩ : ∃ bA, Hid (w.heap.size = bA) := ⟨_, rfl⟩
  rw [H1.out] at hK ⊢
  refine wp_region_lv 7 (fun _ => [(bA, B32 (bdig a), 22)]) [.v (.agg (B32 (bdig a))), .v (.agg (B32 (bdig (a % LL)))), .v (.agg (B32 (bdig a))), .v (.bool (decide (a % LL = a))), .v (.bool (decide (a % LL = a)))] hK (by kernel_rfl) (by kernel_rfl) (by kernel_rfl) (by rfl) ?_ ?_
  · exact .c (.ld bA (fun _ => .head _) Tryz.underlying22 rfl (B32_info _)) <| .c (.ca fun _ _ hkx => smod_any a ha _ (hT.kp hkx)) <| .c (.ld bA (fun _ => .head _) Tryz.underlying22 rfl (B32_info _)) <| .c (.p2 4 (.agg (B32 (bdig (a % LL)))) 5 (.agg (B32 (bdig a))) (h := by intro ac wc f4 f5; have q0 := getq f4; have q1 := getq f5; have he := B32_eq (a % LL) a lt_of_modL ha; go_simp)) <| .c (.p1 6 (.bool (decide (a % LL = a)))) .nil
  · intro _ wq hJ _
    have hKq := hJ.1
    simp only [putL, Lv.val, Act.put, List.setIfInBounds_toArray, List.set_cons_succ, List.set_cons_zero]
    go_wp2_with fail
    go_ret
    exact ⟨by rw [← Hd.out]; rfl, hKq.2⟩
end Go.Proofs.YtgibllaifnnfkaaGreatDoor
namespace Go.Proofs.YtgibllaifnnfkaaGreatDoor
open Go.RowKit
theorem infoU64 : (Tryz.prog.info? 52).map (·.size) = some 1 := by kernel_rfl
def Mk2 (l : List (Nat × Array Value × TypeId)) (w0 : World) (A0 A1 B1 : Array Value) (t : TypeId) (m1 s1 : Bool) (v1 : Value) (m2 s2 : Bool) (v2 : Value) (w : World) : Prop :=
  Kp l w0 w ∧ (m1 = true → ∃ g, v1 = .pointer (some ⟨g, 0, none⟩) ∧ w0.heap.size ≤ g ∧ (∀ p ∈ l, p.1 ≠ g) ∧ Own w g (if s1 = true then A1 else A0) t)
    ∧ (m2 = true → ∃ g, v2 = .pointer (some ⟨g, 0, none⟩) ∧ w0.heap.size ≤ g ∧ (∀ p ∈ l, p.1 ≠ g) ∧ Own w g (if s2 = true then B1 else A0) t) ∧ (m1 = true → m2 = true → v1 ≠ v2)
section
variable {l : List (Nat × Array Value × TypeId)} {w0 : World} {A0 A1 B1 : Array Value} {t : TypeId} {m1 s1 : Bool} {v1 : Value} {m2 s2 : Bool} {v2 : Value} {w : World}
theorem Mk2.below {w' : World} (h : Mk2 l w0 A0 A1 B1 t m1 s1 v1 m2 s2 v2 w) (hB : Below w.heap.size w w') : Mk2 l w0 A0 A1 B1 t m1 s1 v1 m2 s2 v2 w' :=
  ⟨h.1.below hB, fun hm => by
    obtain ⟨g, h1, h2, h3, h4⟩ := h.2.1 hm
    exact ⟨g, h1, h2, h3, h4.below hB h4.lt⟩, fun hm => by
    obtain ⟨g, h1, h2, h3, h4⟩ := h.2.2.1 hm
    exact ⟨g, h1, h2, h3, h4.below hB h4.lt⟩, h.2.2.2⟩
theorem Mk2.drew (h : Kp l w0 w) : Mk2 l w0 A0 A1 B1 t false s1 v1 false s2 v2 { w with drawn := w.drawn + 1 } := ⟨h.drew, fun e => by (cases e), fun e => by (cases e), fun e => by (cases e)⟩
theorem Mk2.alloc1 (h : Mk2 l w0 A0 A1 B1 t m1 s1 v1 m2 s2 v2 w) (hs : s1 = false) : Mk2 l w0 A0 A1 B1 t true s1 (.pointer (some ⟨w.heap.size, 0, none⟩)) m2 s2 v2 (w.alloc (.cells A0 t)) := by
  subst hs
  have hb := h.below ((Below.refl w.heap.size w).alloc (Nat.le_refl _) (.cells A0 t))
  refine ⟨hb.1, fun _ => ⟨_, rfl, h.1.2.size, fun p hp => Nat.ne_of_lt (h.1.1 p hp).lt, own_new w A0 t⟩, hb.2.2.1, fun _ hm e => ?_⟩
  obtain ⟨g, h1, -, -, h4⟩ := h.2.2.1 hm
  rw [h1] at e
  simp only [Value.pointer.injEq, Option.some.injEq, Addr.mk.injEq, and_true] at e
  have := h4.lt
  omega
theorem Mk2.alloc2 (h : Mk2 l w0 A0 A1 B1 t m1 s1 v1 m2 s2 v2 w) (hs : s2 = false) : Mk2 l w0 A0 A1 B1 t m1 s1 v1 true s2 (.pointer (some ⟨w.heap.size, 0, none⟩)) (w.alloc (.cells A0 t)) := by
  subst hs
  have hb := h.below ((Below.refl w.heap.size w).alloc (Nat.le_refl _) (.cells A0 t))
  refine ⟨hb.1, hb.2.1, fun _ => ⟨_, rfl, h.1.2.size, fun p hp => Nat.ne_of_lt (h.1.1 p hp).lt, own_new w A0 t⟩, fun hm _ e => ?_⟩
  obtain ⟨g, h1, -, -, h4⟩ := h.2.1 hm
  rw [h1] at e
  simp only [Value.pointer.injEq, Option.some.injEq, Addr.mk.injEq, and_true] at e
  have := h4.lt
  omega
theorem ptr_inj {g g' : Nat} (h : Value.pointer (some ⟨g, 0, none⟩) = .pointer (some ⟨g', 0, none⟩)) : g = g' := by
  simpa only [Value.pointer.injEq, Option.some.injEq, Addr.mk.injEq, and_true] using h
theorem Mk2.at1 {g : Nat} (h : Mk2 l w0 A0 A1 B1 t m1 s1 v1 m2 s2 v2 w) (hm : m1 = true) (hv : v1 = .pointer (some ⟨g, 0, none⟩)) (hs : s1 = false) : w0.heap.size ≤ g ∧ (∀ p ∈ l, p.1 ≠ g) ∧ Own w g A0 t := by
  subst hs
  obtain ⟨g', h1, h2, h3, h4⟩ := h.2.1 hm
  obtain rfl := ptr_inj (hv.symm.trans h1)
  exact ⟨h2, h3, h4⟩
theorem Mk2.at2 {g : Nat} (h : Mk2 l w0 A0 A1 B1 t m1 s1 v1 m2 s2 v2 w) (hm : m2 = true) (hv : v2 = .pointer (some ⟨g, 0, none⟩)) (hs : s2 = false) : w0.heap.size ≤ g ∧ (∀ p ∈ l, p.1 ≠ g) ∧ Own w g A0 t := by
  subst hs
  obtain ⟨g', h1, h2, h3, h4⟩ := h.2.2.1 hm
  obtain rfl := ptr_inj (hv.symm.trans h1)
  exact ⟨h2, h3, h4⟩
theorem Mk2.store1 {g : Nat} (h : Mk2 l w0 A0 A1 B1 t m1 s1 v1 m2 s2 v2 w) (hm : m1 = true) (hv : v1 = .pointer (some ⟨g, 0, none⟩)) (hs : s1 = false) (hsz : A1.size = A0.size) : Mk2 l w0 A0 A1 B1 t m1 true v1 m2 s2 v2 (w.setCells g 0 A1.toList) := by
  obtain ⟨h2, h3, h4⟩ := h.at1 hm hv hs
  refine ⟨⟨fun p hp => Own.setCells_other (h3 p hp) _ _ _ (h.1.1 p hp), Below.setCells _ _ _ _ h2 h.1.2⟩, fun _ => ⟨g, hv, h2, h3, own_setCells h4 hsz⟩, fun hm2 => ?_, h.2.2.2⟩
  obtain ⟨g', k1, k2, k3, k4⟩ := h.2.2.1 hm2
  refine ⟨g', k1, k2, k3, Own.setCells_other (fun e => ?_) _ _ _ k4⟩
  exact h.2.2.2 hm hm2 (by rw [hv, k1, e])
theorem Mk2.store2 {g : Nat} (h : Mk2 l w0 A0 A1 B1 t m1 s1 v1 m2 s2 v2 w) (hm : m2 = true) (hv : v2 = .pointer (some ⟨g, 0, none⟩)) (hs : s2 = false) (hsz : B1.size = A0.size) : Mk2 l w0 A0 A1 B1 t m1 s1 v1 m2 true v2 (w.setCells g 0 B1.toList) := by
  obtain ⟨h2, h3, h4⟩ := h.at2 hm hv hs
  refine ⟨⟨fun p hp => Own.setCells_other (h3 p hp) _ _ _ (h.1.1 p hp), Below.setCells _ _ _ _ h2 h.1.2⟩, fun hm1 => ?_, fun _ => ⟨g, hv, h2, h3, own_setCells h4 hsz⟩, h.2.2.2⟩
  obtain ⟨g', k1, k2, k3, k4⟩ := h.2.1 hm1
  refine ⟨g', k1, k2, k3, Own.setCells_other (fun e => ?_) _ _ _ k4⟩
  exact h.2.2.2 hm1 hm (by rw [hv, k1, e])
theorem Mk2.done {g g' : Nat} (h : Mk2 l w0 A0 A1 B1 t m1 s1 v1 m2 s2 v2 w) (hm : m1 = true) (hv : v1 = .pointer (some ⟨g, 0, none⟩)) (hs : s1 = true) (hm' : m2 = true) (hv' : v2 = .pointer (some ⟨g', 0, none⟩)) (hs' : s2 = true) :
    Kp ((g, A1, t) :: (g', B1, t) :: l) w0 w ∧ w0.heap.size ≤ g ∧ w0.heap.size ≤ g' ∧ g ≠ g' ∧ (∀ p ∈ l, p.1 ≠ g) ∧ ∀ p ∈ l, p.1 ≠ g' := by
  subst hs; subst hs'
  obtain ⟨x, h1, h2, h3, h4⟩ := h.2.1 hm
  obtain rfl := ptr_inj (hv.symm.trans h1)
  obtain ⟨y, k1, k2, k3, k4⟩ := h.2.2.1 hm'
  obtain rfl := ptr_inj (hv'.symm.trans k1)
  refine ⟨⟨fun p hp => ?_, h.1.2⟩, h2, k2, fun e => h.2.2.2 hm hm' (by rw [hv, hv', e]), h3, k3⟩
  rcases List.mem_cons.1 hp with rfl | hp
  · exact h4
  · rcases List.mem_cons.1 hp with rfl | hp
    · exact k4
    · exact h.1.1 p hp
end
theorem add_join (c : Nat) (hc : c < R256) : ((numA c).toList ++ (A8 fun _ => 0).toList.drop 4).toArray = A8 (dig c) := by
  have h4 := dig_above' hc (k := 4) (by decide)
  have h5 := dig_above' hc (k := 5) (by decide)
  have h6 := dig_above' hc (k := 6) (by decide)
  have h7 := dig_above' hc (k := 7) (by decide)
  unfold numA A4 A8
  rw [h4, h5, h6, h7]
  rfl
def factMulAdd (b c : Nat) : Nat → Value → Prop
  | 0, v => v = .agg (B32 (bdig c))
  | 1, v => v = .agg (numA c)
  | 2, v => v = .agg (B32 (bdig b))
  | 3, v => v = .agg (numA b)
  | 4, v => ∃ g, v = .pointer (some ⟨g, 0, none⟩)
  | 5, v => ∃ g, v = .pointer (some ⟨g, 0, none⟩)
  | _, _ => True
def valCopy (bW bE : Nat) : Nat → Value
  | 0 => .slice (some ⟨bW, 0, none⟩) 8 8
  | 1 => .slice (some ⟨bE, 0, none⟩) 4 4
  | 2 => .int .i64 4
  | _ => undef
theorem index_num (n k : Nat) (hk : k < 4) (w : World) : (Instr.index 83 (.agg (numA n)) (.int .i64 (k : Int))).run Tryz.prog w = .ok (.int .u64 (dig n k : Int)) w :=
  run_index_arr Tryz.underlying83 Tryz.underlying52 infoU64 (numA n) k _ hk (numA_at n k hk) w
set_option maxRecDepth 100000 in
set_option maxHeartbeats 16000000 in
theorem smuladd_any (a b c : Nat) (ha : a < R256) (hb : b < R256) (hc : c < R256) (w : World) (hT : TO w) : Calls Tryz.prog 30 #[.agg (B32 (bdig a)), .agg (B32 (bdig b)), .agg (B32 (bdig c))] w fun x w' => x = .returned (.agg (B32 (bdig ((a * b + c) % LL)))) ∧ Below w.heap.size w w' := by
  have hz := (zero_of_info zeroB32).1
  have hz8 := (zero_of_info zeroA8').1
  have hzN := (zero_of_info zeroSN).1
  obtain ⟨r, Hr⟩ : ∃ r, Hid ((a * b + c) % LL = r) := ⟨_, rfl⟩
  rw [Hr.out]
  go_enter Tryz.func30, Tryz.ntmps30
  go_upto_region 2 with fail
  have hK := (((((Kp.nil w).alloc (B32 (bdig a)) 22).alloc (B32 (bdig b)) 22).alloc (B32 (bdig c)) 22).alloc (B32 fun _ => 0) 22).alloc (A8 fun _ => 0) 80
  rw [World.size_alloc, World.size_alloc, World.size_alloc, World.size_alloc] at hK
  generalize ((((w.alloc (.cells (B32 (bdig a)) 22)).alloc (.cells (B32 (bdig b)) 22)).alloc (.cells (B32 (bdig c)) 22)).alloc (.cells (B32 fun _ => 0) 22)).alloc (.cells (A8 fun _ => 0) 80) = W at *
  obtain ⟨bA, H1⟩ : ∃ bA, Hid (w.heap.size = bA) := ⟨_, rfl⟩
  obtain ⟨bB, H2⟩ : ∃ bB, Hid (bA + 1 = bB) := ⟨_, rfl⟩
  obtain ⟨bC, H3⟩ : ∃ bC, Hid (bB + 1 = bC) := ⟨_, rfl⟩
  obtain ⟨bR, H4⟩ : ∃ bR, Hid (bC + 1 = bR) := ⟨_, rfl⟩
  obtain ⟨bW, H5⟩ : ∃ bW, Hid (bR + 1 = bW) := ⟨_, rfl⟩
  have hleR : w.heap.size ≤ bR := by have := H1.out; have := H2.out; have := H3.out; have := H4.out; omega
  have hleW : w.heap.size ≤ bW := by have := H5.out; omega
  have n1 : bR ≠ bW := by have := H5.out; omega
  have n2 : bA ≠ bW := by have := H2.out; have := H3.out; have := H4.out; have := H5.out; omega
  rw [H1.out, H2.out, H3.out, H4.out, H5.out] at hK ⊢
  refine wp_region_told 58 (by kernel_rfl) (by kernel_rfl) (by rfl) (factMulAdd b c) (fun L vs => Mk2 [(bW, A8 fun _ => 0, 80), (bR, B32 fun _ => 0, 22), (bC, B32 (bdig c), 22), (bB, B32 (bdig b), 22), (bA, B32 (bdig a), 22)] w (numA 0) (numA c) (numA b) 83 (L 4) (L 6) (vs 4) (L 5) (L 7) (vs 5)) (fun _ => Mk2.drew hK) ?_ ?_
  · intro L vs ac wc i o hF hLi ho hd K hK
    rcases i with _ | _ | _ | _ | _ | _ | _ | _ | i
    · have ho' := ho
      obtain rfl := Option.some.inj ho
      have f5 : ac.tmps.getD 5 undef = .pointer (some ⟨bC, 0, none⟩) := slott hF 0 hLi 5 (by kernel_rfl)
      refine step_do ho' (wanted_free rfl) ?_
      exact wp_load_own 22 (.tmp 5) rfl bC f5 (B32 (bdig c)) _ 22 hF.j.1.h3 Tryz.underlying22 rfl (B32_info _) (hK _ _ (.inr rfl) hF.j)
    · have ho' := ho
      obtain rfl := Option.some.inj ho
      have f15 : ac.tmps.getD 15 undef = .agg (B32 (bdig c)) := (factt hF hd 0 rfl rfl (by kernel_rfl)).1.trans (factt hF hd 0 rfl rfl (by kernel_rfl)).2
      refine step_do ho' (wanted_free rfl) ?_
      unfold Oper.wp
      go_simp
      refine (read_anyZ c _).mono ?_
      rintro e w' ⟨rfl, hB⟩
      exact hK _ _ (.inr rfl) (hF.j.below hB)
    · have ho' := ho
      obtain rfl := Option.some.inj ho
      have f4 : ac.tmps.getD 4 undef = .pointer (some ⟨bB, 0, none⟩) := slott hF 2 hLi 4 (by kernel_rfl)
      refine step_do ho' (wanted_free rfl) ?_
      exact wp_load_own 22 (.tmp 4) rfl bB f4 (B32 (bdig b)) _ 22 hF.j.1.h4 Tryz.underlying22 rfl (B32_info _) (hK _ _ (.inr rfl) hF.j)
    · have ho' := ho
      obtain rfl := Option.some.inj ho
      have f17 : ac.tmps.getD 17 undef = .agg (B32 (bdig b)) := (factt hF hd 2 rfl rfl (by kernel_rfl)).1.trans (factt hF hd 2 rfl rfl (by kernel_rfl)).2
      refine step_do ho' (wanted_free rfl) ?_
      unfold Oper.wp
      go_simp
      refine (read_anyZ b _).mono ?_
      rintro e w' ⟨rfl, hB⟩
      exact hK _ _ (.inr rfl) (hF.j.below hB)
    · have ho' := ho
      obtain rfl := Option.some.inj ho
      refine step_do ho' (wanted_free rfl) ?_
      have hs := notyett hF 4 hLi 6 rfl (by kernel_rfl)
      unfold Oper.wp
      go_simp
      rw [← zero_num]
      exact hK _ _ (.inr ⟨_, rfl⟩) (Mk2.alloc1 hF.j hs)
    · have ho' := ho
      obtain rfl := Option.some.inj ho
      refine step_do ho' (wanted_free rfl) ?_
      have hs := notyett hF 5 hLi 7 rfl (by kernel_rfl)
      unfold Oper.wp
      go_simp
      rw [← zero_num]
      exact hK _ _ (.inr ⟨_, rfl⟩) (Mk2.alloc2 hF.j hs)
    · have ho' := ho
      obtain rfl := Option.some.inj ho
      have f16 : ac.tmps.getD 16 undef = .agg (numA c) := (factt hF hd 1 rfl rfl (by kernel_rfl)).1.trans (factt hF hd 1 rfl rfl (by kernel_rfl)).2
      refine step_do ho' (wanted_free rfl) ?_
      obtain ⟨fg, g, hg⟩ := factt hF hd 4 rfl rfl (by kernel_rfl)
      have hm := dep hd 4 (by kernel_rfl)
      have hj := hF.j
      rw [hg] at fg
      have hj2 := hj.at1 hm hg hLi
      refine wp_store_own 83 (.tmp 8) (.tmp 16) rfl g (numA c) fg f16 hj2.2.2 rfl infoSN (numA_one _) rfl ?_
      exact hK undef _ (.inl rfl) (hj.store1 hm hg hLi rfl)
    · have ho' := ho
      obtain rfl := Option.some.inj ho
      have f18 : ac.tmps.getD 18 undef = .agg (numA b) := (factt hF hd 3 rfl rfl (by kernel_rfl)).1.trans (factt hF hd 3 rfl rfl (by kernel_rfl)).2
      refine step_do ho' (wanted_free rfl) ?_
      obtain ⟨fg, g, hg⟩ := factt hF hd 5 rfl rfl (by kernel_rfl)
      have hm := dep hd 5 (by kernel_rfl)
      have hj := hF.j
      rw [hg] at fg
      have hj2 := hj.at2 hm hg hLi
      refine wp_store_own 83 (.tmp 9) (.tmp 18) rfl g (numA b) fg f18 hj2.2.2 rfl infoSN (numA_one _) rfl ?_
      exact hK undef _ (.inl rfl) (hj.store2 hm hg hLi rfl)
    · cases ho
  · intro L vs wq hL hJ hf
    obtain ⟨bE, hg⟩ := hf 4 _ _ rfl rfl
    obtain ⟨bF, hg'⟩ := hf 5 _ _ rfl rfl
    obtain ⟨hKq, hE, hF, nEF, hEl, hFl⟩ := hJ.done (hL 4 (by decide)) hg (hL 6 (by decide)) (hL 5 (by decide)) hg' (hL 7 (by decide))
    have e0 : vs 0 = _ := hf 0 _ _ rfl rfl
    have e1 : vs 1 = _ := hf 1 _ _ rfl rfl
    have e2 : vs 2 = _ := hf 2 _ _ rfl rfl
    have e3 : vs 3 = _ := hf 3 _ _ rfl rfl
    simp only [putAll, Nat.zero_add, Nat.reduceAdd, e0, e1, e2, e3, hg, hg', Act.put, List.setIfInBounds_toArray, List.set_cons_succ, List.set_cons_zero]
    have nWE : bW ≠ bE := hEl (bW, A8 fun _ => 0, 80) (.head _)
    have nWF : bW ≠ bF := hFl (bW, A8 fun _ => 0, 80) (.head _)
    have nRE : bR ≠ bE := hEl (bR, B32 fun _ => 0, 22) (.tail _ (.head _))
    have nRF : bR ≠ bF := hFl (bR, B32 fun _ => 0, 22) (.tail _ (.head _))
    have hK : Kp [(bW, A8 fun _ => 0, 80), (bE, numA c, 83), (bF, numA b, 83), (bR, B32 fun _ => 0, 22), (bA, B32 (bdig a), 22)] w wq := hKq.sub (by simp)
    clear hKq hJ hf hL hEl hFl e0 e1 e2 e3 hg hg'
    go_upto_region 3 with fail
    refine wp_region_vals 58 (by kernel_rfl) (by kernel_rfl) (by rfl) (valCopy bW bE) (fun L => Kp [(bW, if L 2 = true then A8 (dig c) else A8 fun _ => 0, 80), (bE, numA c, 83), (bF, numA b, 83), (bR, B32 fun _ => 0, 22), (bA, B32 (bdig a), 22)] w) hK.drew ?_ ?_
    · intro L ac wc i o hF hLi ho hd K hK
      rcases i with _ | _ | _ | i
      · have ho' := ho
        obtain rfl := Option.some.inj ho
        have f7 : ac.tmps.getD 7 undef = .pointer (some ⟨bW, 0, none⟩) := slotv hF 0 hLi 7 (by kernel_rfl)
        refine step_do ho' (wanted_free rfl) ?_
        unfold Oper.wp
        go_simp
        exact hK _ _ (.inr rfl) hF.j
      · have ho' := ho
        obtain rfl := Option.some.inj ho
        have f8 : ac.tmps.getD 8 undef = .pointer (some ⟨bE, 0, none⟩) := slotv hF 1 hLi 8 (by kernel_rfl)
        refine step_do ho' (wanted_free rfl) ?_
        unfold Oper.wp
        go_simp
        exact hK _ _ (.inr rfl) hF.j
      · have ho' := ho
        obtain rfl := Option.some.inj ho
        have f19 : ac.tmps.getD 19 undef = .slice (some ⟨bW, 0, none⟩) 8 8 := valv hF hd 0 rfl rfl (by kernel_rfl)
        have f20 : ac.tmps.getD 20 undef = .slice (some ⟨bE, 0, none⟩) 4 4 := valv hF hd 1 rfl rfl (by kernel_rfl)
        refine step_do ho' (wanted_free rfl) ?_
        have hj := hF.j
        rw [hLi] at hj
        have hj : Kp [(bW, A8 fun _ => 0, 80), (bE, numA c, 83), (bF, numA b, 83), (bR, B32 fun _ => 0, 22), (bA, B32 (bdig a), 22)] w wc := hj
        refine wp_copy_row (.tmp 19) (.tmp 20) 91 91 rfl 52 Tryz.underlying91 infoU64 bW 8 8 bE 4 4 f19 f20 hj.h1 hj.h2 rfl (show 4 ≤ 8 by decide) (numA_one _) ?_
        rw [numA_size, add_join c hc]
        exact hK _ _ (.inr rfl) (Kp.row hj (by simp; omega) hleW)
      · cases ho
    · intro L wz hL hKz
      rw [hL 2 (by decide)] at hKz
      have hKz : Kp [(bW, A8 (dig c), 80), (bE, numA c, 83), (bF, numA b, 83), (bR, B32 fun _ => 0, 22), (bA, B32 (bdig a), 22)] w wz := hKz
      simp only [putAll, valCopy, Act.put, List.setIfInBounds_toArray, List.set_cons_succ, List.set_cons_zero]
      clear hL hK
      go_wp2_with (refine wpList_load_own (by rfl) 22 (.tmp 3) (by rfl) bA (by rfl) (B32 (bdig a)) _ (hKz.at bA (B32 (bdig a)) 22 (by simp)) Tryz.underlying22 (by rfl) (B32_info _) ?_)
      refine (read_anyZ a _).mono ?_
      rintro x w1 ⟨rfl, b1⟩
      have hK0 := hKz.below b1
      have hK0 : Kp [(bW, A8 (dig c), 80), (bF, numA b, 83), (bR, B32 fun _ => 0, 22)] w w1 := hK0.sub (by simp)
      clear hKz b1
      go_wp2_with fail
      go_loopw [24] (fun ii wr => ∃ (i : Nat) (o : Nat → Nat), i ≤ 4 ∧ ii = .int .i64 (i : Int) ∧ (∀ j, j < 8 → o j < 18446744073709551616) ∧ Hid (∀ j, i + 4 ≤ j → o j = 0) ∧ Hid (vl o 8 = c + vl (dig a) i * vl (dig b) 4) ∧ Kp [(bW, A8 o, 80), (bF, numA b, 83), (bR, B32 fun _ => 0, 22)] w wr) (fun ii _ => 4 - (intOf ii).toNat)
      case atStart => exact ⟨0, dig c, by omega, rfl, fun j _ => dig_lt c j, show ∀ j, 0 + 4 ≤ j → _ from fun j hj => dig_above' hc (by omega), show _ = _ by rw [vl_whole (small_big hc), vl_first, Nat.zero_mul, Nat.add_zero], hK0⟩
      case round =>
        obtain ⟨i, o, hi4, rfl, hoo, Hoz, Ho, hKr⟩ := hrel
        have hi0 : (0 : Int) ≤ (i : Int) := by omega
        by_cases hil : i < 4
        · have hii : (i : Int) < 4 := by omega
          have hxa := index_num a i hil
          obtain ⟨x, Hx⟩ : ∃ x, Hid (dig a i = x) := ⟨_, rfl⟩
          have hxl : x < 18446744073709551616 := by rw [← Hx.out]; exact dig_lt _ _
          rw [Hx.out] at hxa
          go_wp2_with (refine wpList_load_own (by rfl) 83 (.tmp 9) (by rfl) bF (by rfl) (numA b) _ hKr.h2 Tryz.underlying83 (by rfl) infoSN ?_)
          clear hxa
          go_loopw [29, 12] (fun kk cc wr => ∃ (k y : Nat) (o' : Nat → Nat), k ≤ 4 ∧ kk = .int .i64 (k : Int) ∧ cc = .int .u64 (y : Int) ∧ y < 18446744073709551616 ∧ (∀ j, j < 8 → o' j < 18446744073709551616) ∧ Hid (∀ j, i + 4 ≤ j → o' j = 0) ∧ Hid (vl o' 8 + y * 18446744073709551616 ^ (i + k) = vl o 8 + x * vl (dig b) k * 18446744073709551616 ^ i) ∧ Kp [(bW, A8 o', 80), (bF, numA b, 83), (bR, B32 fun _ => 0, 22)] w wr) (fun kk _ _ => 4 - (intOf kk).toNat)
          case atStart => exact ⟨0, 0, o, by omega, rfl, rfl, by decide, hoo, Hoz, start_in _ _ _ _ (dig b), hKr⟩
          case round =>
            obtain ⟨k, y, o', hk4, rfl, rfl, hy, hoo', Hoz', Ho', hKi⟩ := hrel
            have hk0 : (0 : Int) ≤ (k : Int) := by omega
            by_cases hkl : k < 4
            · have hkk : (k : Int) < 4 := by omega
              have hxb := index_num b k hkl
              have hik : i + k < 8 := by omega
              have cO := hKi.h1.cell (A8_at o' (i + k) hik)
              have fO := hKi.h1.frozen (i + k)
              have hiki : (i : Int) + (k : Int) < 8 := by omega
              have hik0 : (0 : Int) ≤ (i : Int) + (k : Int) := by omega
              have hikt : ((i : Int) + (k : Int)).toNat = i + k := by omega
              go_wp2_with fail
              refine (step_anyZ x (dig b k) (o' (i + k)) y hxl (dig_lt _ _) (hoo' _ hik) hy _).mono ?_
              rintro z wr' ⟨⟨lo, hi, rfl, hlo, hhi, es⟩, rfl⟩
              have Hst := show Hid _ from times_step hik Ho'.out es
              clear es hxb
              go_wp2_with fail
              refine ⟨⟨k + 1, hi, upd o' (i + k) lo, by omega, by go_num, rfl, hhi, fun j hj => ?_, show ∀ j, i + 4 ≤ j → _ from fun j hj => ?_, Hst.out, ?_⟩, by simp [intOf]; omega⟩
              · by_cases e : j = i + k
                · rw [e, upd_same]; exact hlo
                · rw [upd_other _ _ _ _ e]; exact hoo' j hj
              · rw [upd_other _ _ _ _ (by omega)]; exact Hoz'.out j hj
              · have := Kp.setCell (i := i + k) (v := .int .u64 (lo : Int)) hKi (by simp; omega) hleW
                rw [A8_set o' (i + k) lo hik] at this
                exact this
            · have hkk : ¬ (k : Int) < 4 := by omega
              have hk4' : k = 4 := by omega
              have Hrow : Hid (vl (upd o' (i + 4) y) 8 = c + vl (dig a) (i + 1) * vl (dig b) 4) := by
                show _ = _
                have h1 := Ho'.out
                rw [hk4', ← Hx.out] at h1
                exact muladd_row (by omega) (Hoz'.out (i + 4) (by omega)) Ho.out h1
              clear hk4'
              have cO := hKi.h1.cell (A8_at o' (i + 4) (by omega))
              have fO := hKi.h1.frozen (i + 4)
              have hi4i : (i : Int) + 4 < 8 := by omega
              have hi40 : (0 : Int) ≤ (i : Int) + 4 := by omega
              have hi4t : ((i : Int) + 4).toNat = i + 4 := by omega
              go_wp2_with fail
              refine ⟨⟨i + 1, upd o' (i + 4) y, by omega, by go_num, fun j hj => ?_, show ∀ j, i + 1 + 4 ≤ j → _ from fun j hj => ?_, Hrow.out, ?_⟩, by simp [intOf]; omega⟩
              · by_cases e : j = i + 4
                · rw [e, upd_same]; exact hy
                · rw [upd_other _ _ _ _ e]; exact hoo' j hj
              · rw [upd_other _ _ _ _ (by omega)]; exact Hoz'.out j (by omega)
              · have := Kp.setCell (i := i + 4) (v := .int .u64 (y : Int)) hKi (by simp; omega) hleW
                rw [A8_set o' (i + 4) y (by omega)] at this
                exact this
        · have hii : ¬ (i : Int) < 4 := by omega
          obtain ⟨t, Ht⟩ : ∃ t, Hid (a * b + c = t) := ⟨_, rfl⟩
          have htR : t < R512 := by rw [← Ht.out]; exact room ha hb hc
          have hA : A8 o = A8 (dig t) := A8_is hoo (by rw [Ho.out, show i = 4 by omega, vl_num a ha, vl_num b hb, ← Ht.out, Nat.add_comm])
          have Hr' : Hid (t % LL = r) := by show _ = _; rw [← Ht.out]; exact Hr.out
          rw [hA] at hKr
          clear hA Ho Hoz hoo
          go_upto_region 15 with fail
          go_wp2_with (refine wpList_load_own (by rfl) 80 (.tmp 7) (by rfl) bW (by rfl) (A8 (dig t)) _ hKr.h1 Tryz.underlying80 (by rfl) infoA8' ?_)
          refine (left_any t htR _ (hT.kp hKr)).mono ?_
          rintro x w2 ⟨rfl, b2⟩
          have hK2 := hKr.below b2
          rw [Hr'.out]
          go_wp2_with fail
          refine (write_anyZ _ _).mono ?_
          rintro x w3 ⟨rfl, b3⟩
          have hK3 := hK2.below b3
          go_wp2_with (refine wpList_store_own (by rfl) 22 (.tmp 6) (.tmp 57) (by rfl) bR 0 (B32 (bdig r)) (by rfl) (by rfl) hK3.h3 (B32_le _ _) (B32_info _) (B32_one _) (by rfl) ?_)
          exact bodyPost_ret (results_own Tryz.results30 _ _ bR (B32 (bdig r)) _ (by rfl) (own_setCells hK3.h3 (B32_sizes _ _)) Tryz.underlying22 rfl (B32_info _)) rfl ⟨rfl, Below.setCells _ _ _ _ hleR hK3.2⟩
end Go.Proofs.YtgibllaifnnfkaaGreatDoor
