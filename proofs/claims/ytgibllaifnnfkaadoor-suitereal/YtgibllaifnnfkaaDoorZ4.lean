/- What is left of eight words, of 64 and of 32 bytes; whether a number is right. -/
import Derived.Test.YtgibllaifnnfkaaDoorZ3
import Derived.Test.YtgibllaifnnfkaaDoorEA
import Derived.Test.YtgibllaifnnfkaaDoorRG
namespace Go.Proofs.YtgibllaifnnfkaaDoor
open Go.RowKit
theorem infoU8 : (Tryd.prog.info? 5).map (·.size) = some 1 := by kernel_rfl
theorem infoA8' : (Tryd.prog.info? 58).map (·.size) = some 8 := by kernel_rfl
theorem zeroA8' : (Tryd.prog.info? 58).map (fun i => (i.zero, i.size)) = some (some (.agg (A8 fun _ => 0)), 8) := by kernel_rfl
theorem Kp.row {l : List (Nat × Array Value × TypeId)} {w0 w : World} {b : Nat} {A A' : Array Value} {t : TypeId} (h : Kp ((b, A, t) :: l) w0 w) (hl : ∀ p ∈ l, p.1 ≠ b) (hb : w0.heap.size ≤ b) : Kp ((b, A', t) :: l) w0 (w.setRow b A') := by
  refine ⟨fun p hp => ?_, below_setRow h.2 hb _⟩
  rcases List.mem_cons.1 hp with rfl | hp
  · exact setRow_heap w b _ _ t _ (h.at b A t (.head _))
  · exact (setRow_other w b p.1 A' (hl p hp)).trans (h.1 p (by simp [hp]))
/-- copy, of a whole block into another one from its head, in a region that draws its order. -/
theorem wp_copy_row {P : Program} {o : Oper} {a : Act} {w : World} {K : Act → World → Prop} {Q : Exit → Act → World → Prop} (d s : Operand) (dT sT : TypeId)
    (ho : o.op = .call { callee := .builtin .copy, args := #[d, s], argTypes := #[dT, sT] }) (elem : TypeId) (hu : P.underlying dT = some (.slice elem)) (hsz : (P.info? elem).map (·.size) = some 1)
    (g dLen dCap b sLen sCap : Nat) (hd : a.eval d = .slice (some ⟨g, 0, none⟩) dLen dCap) (hs : a.eval s = .slice (some ⟨b, 0, none⟩) sLen sCap)
    {A S : Array Value} {t t' : TypeId} (hg : Own w g A t) (hS : Own w b S t') (hn : S.size = Nat.min sLen dLen) (hfit : S.size ≤ A.size) (h1 : S.all (·.oneCell') = true)
    (h : K (a.put o.dst (goInt S.size)) (w.setRow g (S.toList ++ A.toList.drop S.size).toArray)) : o.wp P a w K Q := by
  have hrun := run_copy_row (P := P) w dT sT o.type elem g 0 dLen dCap ⟨b, 0, none⟩ sLen sCap A t S.toList hu hsz hg (by simpa using hn) (fun j v hv => by rw [Addr.add_mid]; exact hS.range j v hv) (by simpa using hfit) (fun v hv => by
    have := Array.all_eq_true_iff_forall_mem.1 h1 v (by simpa using hv)
    exact this)
  unfold Oper.wp
  simp [execOp, ho, resolve, invoke, builtin, hd, hs, hrun, Result.andThen]
  exact h
theorem bdig_above {a i : Nat} (ha : a < R256) (hi : 32 ≤ i) : bdig a i = 0 := by
  unfold bdig
  have h1 : 256 ^ 32 ≤ 256 ^ i := Nat.pow_le_pow_right (by decide) hi
  have h2 : (256 : Nat) ^ 32 = R256 := by decide
  rw [h2] at h1
  rw [Nat.div_eq_of_lt (Nat.lt_of_lt_of_le ha h1), Nat.zero_mod]
/-- 32 bytes with noughts behind them. -/
theorem mod_join (a : Nat) (ha : a < R256) : ((B32 (bdig a)).toList ++ (B64 fun _ => 0).toList.drop 32).toArray = B64 (bdig a) := by
  apply Array.ext_getElem?
  intro i
  by_cases hi : i < 64
  · rw [B64_at _ i hi, List.getElem?_toArray]
    by_cases h : i < 32
    · rw [List.getElem?_append_left (by simp [B32_size]; exact h)]
      simpa using B32_at (bdig a) i h
    · rw [List.getElem?_append_right (by simp [B32_size]; omega), List.getElem?_drop]
      have := B64_at (fun _ => 0) i hi
      simp only [Array.length_toList, B32_size, Array.getElem?_toList]
      rw [show 32 + (i - 32) = i by omega, this, bdig_above ha (by omega)]
  · rw [Array.getElem?_eq_none (by simp [B32_size, B64_size]; omega), Array.getElem?_eq_none (by rw [B64_size]; omega)]
theorem left_from {t : Nat} (ht : t < R512) : 0 = t / 18446744073709551616 ^ 8 % LL := by
  rw [pow8, Nat.div_eq_of_lt ht, Nat.zero_mod]

set_option maxRecDepth 100000 in
set_option maxHeartbeats 8000000 in
theorem left_any (t : Nat) (ht : t < R512) (w : World) (hT : TO w) : Calls Tryd.prog 32 #[.agg (A8 (dig t))] w fun x w' => x = .returned (.agg (numA (t % LL))) ∧ Below w.heap.size w w' := by
  obtain ⟨r, Hr⟩ : ∃ r, Hid (t % LL = r) := ⟨_, rfl⟩
  rw [Hr.out]
  have hz := (zero_of_info zeroSN).1
  go_enter Tryd.func32, Tryd.ntmps32
  go_wp2_with fail
  have hK0 := (((Kp.nil w).alloc (A8 (dig t)) 58).alloc (numA 0) 62).alloc (numA 0) 62
  rw [World.size_alloc, World.size_alloc] at hK0
  rw [← zero_num]
  generalize ((w.alloc (.cells (A8 (dig t)) 58)).alloc (.cells (numA 0) 62)).alloc (.cells (numA 0) 62) = W at *
  obtain ⟨bW, HW⟩ : ∃ bW, Hid (w.heap.size = bW) := ⟨_, rfl⟩
  obtain ⟨bR, HR⟩ : ∃ bR, Hid (bW + 1 = bR) := ⟨_, rfl⟩
  obtain ⟨bO, HO⟩ : ∃ bO, Hid (bR + 1 = bO) := ⟨_, rfl⟩
  have hleR : w.heap.size ≤ bR := by have := HW.out; have := HR.out; omega
  have hleO : w.heap.size ≤ bO := by have := HO.out; omega
  have n1 : bW ≠ bO := by have := HR.out; have := HO.out; omega
  have n2 : bR ≠ bO := by have := HO.out; omega
  rw [HW.out, HR.out, HO.out] at hK0 ⊢
  go_loopw [5] (fun ii wr => ∃ (k n : Nat), k ≤ 8 ∧ ii = .int .i64 (k : Int) ∧ n < LL ∧ Hid (n = t / 18446744073709551616 ^ (8 - k) % LL) ∧ Kp [(bO, numA n, 62), (bR, numA 0, 62), (bW, A8 (dig t), 58)] w wr) (fun ii _ => 8 - (intOf ii).toNat)
  case atStart => exact ⟨0, 0, by omega, rfl, LL_pos, left_from ht, hK0⟩
  case round =>
    obtain ⟨k, n, hk, rfl, hnL, Hn, hKr⟩ := hrel
    have hk0 : (0 : Int) ≤ (k : Int) := by omega
    by_cases hlt : k < 8
    · have hki : (k : Int) < 8 := by omega
      obtain ⟨m, Hm⟩ : ∃ m, Hid (k + m = 7) := ⟨7 - k, by show _ = _; omega⟩
      have hkm : (7 : Int) - (k : Int) = (m : Int) := by have := Hm.out; omega
      have hwm : IntKind.i64.wrap (m : Int) = (m : Int) := by have := Hm.out; simp [IntKind.wrap, IntKind.bits, IntKind.signed]; omega
      have hm8 : m < 8 := by have := Hm.out; omega
      have hm0 : (0 : Int) ≤ (m : Int) := by omega
      have hmi : (m : Int) < 8 := by omega
      obtain ⟨n', Hn'⟩ : ∃ n', Hid ((dig t m + 18446744073709551616 * n) % LL = n') := ⟨_, rfl⟩
      have hnL' : n' < LL := by rw [← Hn'.out]; exact Nat.mod_lt _ LL_pos
      have Hst : Hid (n' = t / 18446744073709551616 ^ (8 - (k + 1)) % LL) := by
        show _ = _
        have hn := Hn.out
        have hm := Hm.out
        rw [show 8 - k = m + 1 by omega] at hn
        rw [show 8 - (k + 1) = m by omega, left_step hn rfl, Hn'.out]
      go_upto_region 5 with fail
      refine wp_region_lv 16 (fun L => [(bO, if L 6 = true then numA n' else numA n, 62), (bR, numA 0, 62), (bW, A8 (dig t), 58)]) [.v (.agg (numA n)), .v (.int .i64 (k : Int)), .v (.int .i64 (m : Int)), .v (.pointer (some ⟨bW, m, none⟩)), .v (.int .u64 (dig t m : Int)), .v (.agg (numA n')), .o] hKr (by kernel_rfl) (by kernel_rfl) (by kernel_rfl) (by rfl) ?_ ?_
      · exact .c (.lq bO 6 false (fun L h => by rw [h]; exact .head _) Tryd.underlying62 rfl infoSN) <| .c (.p1 4 (.int .i64 (k : Int))) <| .c (.p1 9 (.int .i64 (k : Int))) <| .c (.p2 1 (.pointer (some ⟨bW, 0, none⟩)) 10 (.int .i64 (m : Int))) <| .c (.x [(11, .pointer (some ⟨bW, m, none⟩))] fun _ ac wc _ _ hfx hkx hx => by have f11 := hfx _ (.head _); have cW := hkx.h3.cell (A8_at (dig t) m hm8); unfold Oper.wp; go_simp; exact hx _ _ rfl (Below.refl _ _)) <| .c (.ca fun _ wc hkx => by have h := next_any n (dig t m) hnL (dig_lt _ _) wc (hT.kp hkx); rw [Hn'.out] at h; exact h) <| .c (.sk bO (.hr (fun _ => rfl) (fun _ => rfl) (fun _ => by simp; omega)) hleO infoSN (numA_one _)) .nil
      · intro _ wq hJ _
        have hKq : Kp [(bO, numA n', 62), (bR, numA 0, 62), (bW, A8 (dig t), 58)] w wq := hJ.1
        simp only [putL, Lv.val, Act.put, List.setIfInBounds_toArray, List.set_cons_succ, List.set_cons_zero]
        go_wp2_with fail
        exact ⟨⟨k + 1, n', by omega, by go_num, hnL', Hst.out, hKq⟩, by simp [intOf]; omega⟩
    · have hki : ¬ (k : Int) < 8 := by omega
      have Hend : Hid (n = r) := by
        show _ = _
        rw [Hn.out, show 8 - k = 0 by omega, Nat.pow_zero, Nat.div_one, Hr.out]
      go_upto_region 7 with fail
      go_wp2_with (first
        | refine wpList_load_own (by rfl) 62 (.tmp 3) (by rfl) bO (by rfl) (numA n) _ hKr.h1 Tryd.underlying62 (by rfl) infoSN ?_
        | refine wpList_store_own (by rfl) 62 (.tmp 2) (.tmp 15) (by rfl) bR 0 (numA n) (by rfl) (by rfl) hKr.h2 (Nat.le_refl _) infoSN (numA_one n) (by rfl) ?_)
      refine bodyPost_ret (results_own Tryd.results32 _ _ bR (numA n) _ (by rfl) (own_setCells hKr.h2 rfl) Tryd.underlying62 rfl infoSN) rfl ⟨by rw [Hend.out], ?_⟩
      exact Below.setCells _ _ _ _ hleR hKr.2
theorem word_wide (a k b o cap : Nat) (w : World) (hk : k < 8) (ho : 8 * k = o) {t : TypeId} (hO : Own w b (B64 (bdig a)) t) :
    Calls Tryd.prog 30 #[.slice (some ⟨b, o, none⟩) 8 cap] w fun r w' => r = .returned (.int .u64 (dig a k : Int)) ∧ w' = w := by
  refine (word_anyZ (fun i => bdig a (8 * k + i)) b o cap (fun i _ => bdig_lt _ _) w (fun i hi => ?_)).mono ?_
  · rw [← ho]; exact hO.cell (B64_at _ _ (by omega))
  · rintro x w' ⟨rfl, rfl⟩
    exact ⟨by rw [word_dig], rfl⟩

set_option maxRecDepth 100000 in
set_option maxHeartbeats 8000000 in
theorem swide_fn (a : Nat) (ha : a < R512) (w : World) (hT : TO w) : Calls Tryd.prog 18 #[.agg (B64 (bdig a))] w fun x w' => x = .returned (.agg (B32 (bdig (a % LL)))) ∧ Below w.heap.size w w' := by
  have hz := (zero_of_info zeroB32).1
  have hz8 := (zero_of_info zeroA8').1
  go_enter Tryd.func18, Tryd.ntmps18
  go_wp2_with fail
  have hK0 := (((Kp.nil w).alloc (B64 (bdig a)) 24).alloc (B32 fun _ => 0) 22).alloc (A8 fun _ => 0) 58
  rw [World.size_alloc, World.size_alloc] at hK0
  generalize ((w.alloc (.cells (B64 (bdig a)) 24)).alloc (.cells (B32 fun _ => 0) 22)).alloc (.cells (A8 fun _ => 0) 58) = W at *
  obtain ⟨bA, HA⟩ : ∃ bA, Hid (w.heap.size = bA) := ⟨_, rfl⟩
  obtain ⟨bR, HR⟩ : ∃ bR, Hid (bA + 1 = bR) := ⟨_, rfl⟩
  obtain ⟨bO, HO⟩ : ∃ bO, Hid (bR + 1 = bO) := ⟨_, rfl⟩
  have hleR : w.heap.size ≤ bR := by have := HA.out; have := HR.out; omega
  have hleO : w.heap.size ≤ bO := by have := HO.out; omega
  have n1 : bA ≠ bO := by have := HR.out; have := HO.out; omega
  have n2 : bR ≠ bO := by have := HO.out; omega
  rw [HA.out, HR.out, HO.out] at hK0 ⊢
  go_loopw [5] (fun ii wr => ∃ (k : Nat) (h : Nat → Nat), k ≤ 8 ∧ ii = .int .i64 (k : Int) ∧ Hid (∀ j, j < k → h j = dig a j) ∧ Kp [(bO, A8 h, 58), (bR, B32 fun _ => 0, 22), (bA, B64 (bdig a), 24)] w wr) (fun ii _ => 8 - (intOf ii).toNat)
  case atStart => exact ⟨0, fun _ => 0, by omega, rfl, show ∀ j, j < 0 → _ from fun j hj => by omega, hK0⟩
  case round =>
    obtain ⟨k, h, hk, rfl, Hh, hKr⟩ := hrel
    have hk0 : (0 : Int) ≤ (k : Int) := by omega
    by_cases hlt : k < 8
    · have hki : (k : Int) < 8 := by omega
      have h80 : (0 : Int) ≤ 8 * (k : Int) := by omega
      have h81 : 8 * (k : Int) ≤ 64 := by omega
      have h82 : 8 * (k : Int) + 8 ≤ 64 := by omega
      have h83 : 8 * (k : Int) ≤ 8 * (k : Int) + 8 := by omega
      have h84 : (8 * (k : Int) + 8 - 8 * (k : Int)).toNat = 8 := by omega
      have h85 : (8 * (k : Int)).toNat = 8 * k := by omega
      have h86 : (8 * (k : Int) + 8).toNat = 8 * k + 8 := by omega
      go_upto_region 5 with fail
      go_wp2_with fail
      refine (word_wide a k bA (8 * k) _ _ hlt rfl hKr.h3).mono ?_
      rintro x w' ⟨rfl, rfl⟩
      have cO := hKr.h1.cell (A8_at h k hlt)
      have fO := hKr.h1.frozen k
      have hK1 := Kp.setCell (i := k) (v := .int .u64 (dig a k : Int)) hKr (by simp; omega) hleO
      rw [A8_set h k (dig a k) hlt] at hK1
      go_wp2_with fail
      refine ⟨⟨k + 1, upd h k (dig a k), by omega, by go_num, show ∀ j, j < k + 1 → _ from fun j hj => ?_, hK1⟩, by simp [intOf]; omega⟩
      by_cases e : j = k
      · rw [e, upd_same]
      · rw [upd_other _ _ _ _ e]; exact Hh.out j (by omega)
    · have hki : ¬ (k : Int) < 8 := by omega
      have hA : A8 h = A8 (dig a) := A8_congr fun i hi => Hh.out i (by omega)
      rw [hA] at hKr
      clear hA Hh
      go_upto_region 7 with fail
      go_wp2_with (refine wpList_load_own (by rfl) 58 (.tmp 3) (by rfl) bO (by rfl) (A8 (dig a)) _ hKr.h1 Tryd.underlying58 (by rfl) infoA8' ?_)
      refine (left_any a ha _ (hT.kp hKr)).mono ?_
      rintro x w1 ⟨rfl, b1⟩
      have hK1 := hKr.below b1
      go_wp2_with fail
      refine (write_anyZ _ _).mono ?_
      rintro x w2 ⟨rfl, b2⟩
      have hK2 := hK1.below b2
      go_wp2_with (refine wpList_store_own (by rfl) 22 (.tmp 2) (.tmp 20) (by rfl) bR 0 (B32 (bdig (a % LL))) (by rfl) (by rfl) hK2.h2 (B32_le _ _) (B32_info _) (B32_one _) (by rfl) ?_)
      exact bodyPost_ret (results_own Tryd.results18 _ _ bR (B32 (bdig (a % LL))) _ (by rfl) (own_setCells hK2.h2 (B32_sizes _ _)) Tryd.underlying22 rfl (B32_info _)) rfl ⟨rfl, Below.setCells _ _ _ _ hleR hK2.2⟩
def valMod (bW bA : Nat) : Nat → Value
  | 0 => .slice (some ⟨bW, 0, none⟩) 64 64
  | 1 => .slice (some ⟨bA, 0, none⟩) 32 32
  | 2 => .int .i64 32
  | _ => undef

set_option maxRecDepth 100000 in
set_option maxHeartbeats 8000000 in
theorem smod_any (a : Nat) (ha : a < R256) (w : World) (hT : TO w) : Calls Tryd.prog 38 #[.agg (B32 (bdig a))] w fun x w' => x = .returned (.agg (B32 (bdig (a % LL)))) ∧ Below w.heap.size w w' := by
  have hz := (zero_of_info zeroB32).1
  have hzW := (zero_of_info zeroB64).1
  go_enter Tryd.func38, Tryd.ntmps38
  go_upto_region 2 with fail
  have hK := (((Kp.nil w).alloc (B32 (bdig a)) 22).alloc (B32 fun _ => 0) 22).alloc (B64 fun _ => 0) 24
  rw [World.size_alloc, World.size_alloc] at hK
  generalize ((w.alloc (.cells (B32 (bdig a)) 22)).alloc (.cells (B32 fun _ => 0) 22)).alloc (.cells (B64 fun _ => 0) 24) = W at *
  obtain ⟨bA, HA⟩ : ∃ bA, Hid (w.heap.size = bA) := ⟨_, rfl⟩
  obtain ⟨bR, HR⟩ : ∃ bR, Hid (bA + 1 = bR) := ⟨_, rfl⟩
  obtain ⟨bW, HW⟩ : ∃ bW, Hid (bR + 1 = bW) := ⟨_, rfl⟩
  have hleR : w.heap.size ≤ bR := by have := HA.out; have := HR.out; omega
  have hleW : w.heap.size ≤ bW := by have := HW.out; omega
  have n1 : bA ≠ bW := by have := HR.out; have := HW.out; omega
  have n2 : bR ≠ bW := by have := HW.out; omega
  rw [HA.out, HR.out, HW.out] at hK ⊢
  refine wp_region_vals 9 (by kernel_rfl) (by kernel_rfl) (by rfl) (valMod bW bA) (fun L => Kp [(bW, if L 2 = true then B64 (bdig a) else B64 fun _ => 0, 24), (bR, B32 fun _ => 0, 22), (bA, B32 (bdig a), 22)] w) hK.drew ?_ ?_
  · intro L ac wc i o hF hLi ho hd K hK
    rcases i with _ | _ | _ | i
    · have ho' := ho
      obtain rfl := Option.some.inj ho
      have f3 : ac.tmps.getD 3 undef = .pointer (some ⟨bW, 0, none⟩) := slotv hF 0 hLi 3 (by kernel_rfl)
      refine step_do ho' (wanted_free rfl) ?_
      unfold Oper.wp
      go_simp
      exact hK _ _ (.inr rfl) hF.j
    · have ho' := ho
      obtain rfl := Option.some.inj ho
      have f1 : ac.tmps.getD 1 undef = .pointer (some ⟨bA, 0, none⟩) := slotv hF 1 hLi 1 (by kernel_rfl)
      refine step_do ho' (wanted_free rfl) ?_
      unfold Oper.wp
      go_simp
      exact hK _ _ (.inr rfl) hF.j
    · have ho' := ho
      obtain rfl := Option.some.inj ho
      have f4 : ac.tmps.getD 4 undef = .slice (some ⟨bW, 0, none⟩) 64 64 := valv hF hd 0 rfl rfl (by kernel_rfl)
      have f5 : ac.tmps.getD 5 undef = .slice (some ⟨bA, 0, none⟩) 32 32 := valv hF hd 1 rfl rfl (by kernel_rfl)
      refine step_do ho' (wanted_free rfl) ?_
      have hj := hF.j
      rw [hLi] at hj
      have hj : Kp [(bW, B64 fun _ => 0, 24), (bR, B32 fun _ => 0, 22), (bA, B32 (bdig a), 22)] w wc := hj
      refine wp_copy_row (.tmp 4) (.tmp 5) 23 23 rfl 5 Tryd.underlying23 infoU8 bW 64 64 bA 32 32 f4 f5 hj.h1 hj.h3 (by rw [B32_size]; rfl) (by rw [B32_size, B64_size]; decide) (B32_one _) ?_
      rw [B32_size, mod_join a ha]
      exact hK _ _ (.inr rfl) (Kp.row hj (by simp; omega) hleW)
    · cases ho
  · intro L wq hL hKq
    rw [hL 2 (by decide)] at hKq
    simp only [putAll, valMod, Act.put, List.setIfInBounds_toArray, List.set_cons_succ, List.set_cons_zero]
    go_wp2_with (refine wpList_load_own (by rfl) 24 (.tmp 3) (by rfl) bW (by rfl) (B64 (bdig a)) _ hKq.h1 Tryd.underlying24 (by rfl) (B64_info _) ?_)
    refine (swide_fn a (small_big ha) _ (hT.kp hKq)).mono ?_
    rintro x w1 ⟨rfl, b1⟩
    have hK1 := hKq.below b1
    go_wp2_with (refine wpList_store_own (by rfl) 22 (.tmp 2) (.tmp 8) (by rfl) bR 0 (B32 (bdig (a % LL))) (by rfl) (by rfl) hK1.h2 (B32_le _ _) (B32_info _) (B32_one _) (by rfl) ?_)
    exact bodyPost_ret (results_own Tryd.results38 _ _ bR (B32 (bdig (a % LL))) _ (by rfl) (own_setCells hK1.h2 (B32_sizes _ _)) Tryd.underlying22 rfl (B32_info _)) rfl ⟨rfl, Below.setCells _ _ _ _ hleR hK1.2⟩

set_option maxRecDepth 100000 in
set_option maxHeartbeats 4000000 in
theorem scheck_any (a : Nat) (ha : a < R256) (w : World) (hT : TO w) : Calls Tryd.prog 22 #[.agg (B32 (bdig a))] w fun x w' => x = .returned (.bool (decide (a < LL))) ∧ Below w.heap.size w w' := by
  have hz := (zero_of_info zeroB32).1
  have Hd : Hid (decide (a % LL = a) = decide (a < LL)) := by
    show _ = _
    rw [decide_eq_decide]
    exact ⟨fun h => h ▸ Nat.mod_lt _ LL_pos, fun h => Nat.mod_eq_of_lt h⟩
  go_enter Tryd.func22, Tryd.ntmps22
  go_upto_region 1 with fail
  have hK := (Kp.nil w).alloc (B32 (bdig a)) 22
  generalize w.alloc (.cells (B32 (bdig a)) 22) = W at *
  obtain ⟨bA, H1⟩ : ∃ bA, Hid (w.heap.size = bA) := ⟨_, rfl⟩
  rw [H1.out] at hK ⊢
  refine wp_region_lv 7 (fun _ => [(bA, B32 (bdig a), 22)]) [.v (.agg (B32 (bdig a))), .v (.agg (B32 (bdig (a % LL)))), .v (.agg (B32 (bdig a))), .v (.bool (decide (a % LL = a))), .v (.bool (decide (a % LL = a)))] hK (by kernel_rfl) (by kernel_rfl) (by kernel_rfl) (by rfl) ?_ ?_
  · exact .c (.ld bA (fun _ => .head _) Tryd.underlying22 rfl (B32_info _)) <| .c (.ca fun _ _ hkx => smod_any a ha _ (hT.kp hkx)) <| .c (.ld bA (fun _ => .head _) Tryd.underlying22 rfl (B32_info _)) <| .c (.p2 4 (.agg (B32 (bdig (a % LL)))) 5 (.agg (B32 (bdig a))) (h := by intro ac wc f4 f5; have q0 := getq f4; have q1 := getq f5; have he := B32_eq (a % LL) a lt_of_modL ha; go_simp)) <| .c (.p1 6 (.bool (decide (a % LL = a)))) .nil
  · intro _ wq hJ _
    have hKq := hJ.1
    simp only [putL, Lv.val, Act.put, List.setIfInBounds_toArray, List.set_cons_succ, List.set_cons_zero]
    go_wp2_with fail
    go_ret
    exact ⟨by rw [← Hd.out]; rfl, hKq.2⟩
end Go.Proofs.YtgibllaifnnfkaaDoor
