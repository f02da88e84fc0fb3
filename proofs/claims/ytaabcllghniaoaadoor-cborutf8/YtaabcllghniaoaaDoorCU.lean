/- The page's UTF-8. -/
import Derived.Test.YtaabcllghniaoaaDoorCD
import Derived.Test.YtaabcllghniaoaaDoorHBL
import Derived.Test.YtaabcllghniaoaaDoorHBP
namespace Go.Proofs.YtaabcllghniaoaaDoor
open Go Go.RowKit
theorem and_192 : ∀ b : Fin 256, bits .and .u8 (b.val : Int) 192 = ((b.val / 64 * 64 : Nat) : Int) := by decide +kernel
theorem and_192_nat {b : Nat} (h : b < 256) : bits .and .u8 (b : Int) 192 = ((b / 64 * 64 : Nat) : Int) := and_192 ⟨b, h⟩
theorem and_i64 : ∀ b : Fin 256, bits .and .i64 (b.val : Int) 31 = (b.val : Int) % 32 ∧ bits .and .i64 (b.val : Int) 15 = (b.val : Int) % 16 ∧ bits .and .i64 (b.val : Int) 7 = (b.val : Int) % 8 := by decide +kernel
theorem or_six {x y : Nat} (hy : y < 64) (h : x < 16777216) : bits .or .i64 ((x : Int) * 64) (y : Int) = ((x * 64 + y : Nat) : Int) := by
  rw [bits_join .i64 63 (by decide) (fun n h0 h1 => by rw [IntKind.wrap_i64]; omega) 6 _ _ (by omega) (by omega) (by omega) (by omega) (by omega) (by omega), Int.natCast_add, Int.natCast_mul]
  rfl
theorem uval_snoc (s : Int) (l : List Int) (x : Int) : uval s (l ++ [x]) = uval s l * 64 + x % 64 := by
  unfold uval
  rw [List.foldl_append]
  rfl
theorem uval_bound : ∀ (l : List Int) (s : Int) (B : Nat), 0 ≤ s → s < (B : Int) → 0 ≤ uval s l ∧ uval s l < ((B * 64 ^ l.length : Nat) : Int)
  | [], s, B, h0, h1 => by simp [uval]; omega
  | x :: l, s, B, h0, h1 => by
    have h2 : uval s (x :: l) = uval (s * 64 + x % 64) l := rfl
    have h3 := Int.emod_nonneg x (show (64 : Int) ≠ 0 by decide)
    have h4 := Int.emod_lt_of_pos x (show (0 : Int) < 64 by decide)
    have := uval_bound l (s * 64 + x % 64) (B * 64) (by omega) (by push_cast; omega)
    rw [h2, List.length_cons, Nat.pow_succ, Nat.mul_comm (64 ^ l.length), ← Nat.mul_assoc]
    exact this
theorem ucont_snoc (l : List Int) (x : Int) : ucont (l ++ [x]) = (ucont l && decide (128 ≤ x ∧ x < 192)) := by
  unfold ucont
  rw [List.all_append]
  simp
theorem ucont_false {l : List Int} {i : Nat} (hi : i < l.length) (h : ¬ (128 ≤ l.getD i 0 ∧ l.getD i 0 < 192)) : ucont l = false := by
  rw [Bool.eq_false_iff]
  intro hc
  unfold ucont at hc
  rw [List.all_eq_true] at hc
  have := of_decide_eq_true (hc _ (getD_mem hi))
  exact h this
theorem drop_cons {m : List Int} {i : Nat} (h : i < m.length) : m.drop i = m.getD i 0 :: m.drop (i + 1) := by
  rw [List.drop_eq_getElem_cons h]
  congr 1
  simp [List.getD, h]
/-- What a step over a code point says. -/
theorem utf8_step {m : List Int} {i s : Nat} {c : Int} (h : i < m.length) (hc : m.getD i 0 = c) (hs : usize c = s) (h0 : s ≠ 0) (h9 : s ≠ 9) : utf8 (m.drop i) = if (m.drop (i + 1)).length < s then false else (ucont ((m.drop (i + 1)).take s) && uright (uval (ufirst c s) ((m.drop (i + 1)).take s)) (ulow s) && utf8 (m.drop (i + 1 + s))) := by
  rw [drop_cons h, hc, utf8_cons, hs, if_neg h0, List.drop_drop]
  by_cases hl : (m.drop (i + 1)).length < s
  · rw [if_pos (.inr hl), if_pos hl]
  · rw [if_neg (fun h => h.elim h9 hl), if_neg hl]
set_option maxRecDepth 100000 in
set_option maxHeartbeats 4000000 in
theorem putf8_is {a : Option Addr} {cap : Nat} {m : List Int} {w : World} (hm : Txt w a cap m) (hl : m.length ≤ 1000000) : Calls Tryd.prog 21 #[.slice a m.length cap] w fun e w' => e = .returned (.bool (utf8 m)) ∧ w' = w := by
  have hlen : (m.length : Int) ≤ 1000000 := by omega
  have bm : Hid (Bys m) := hm.1.2.2.2.1
  go_enter Tryd.func21, Tryd.ntmps21
  go_upto_region 2 with fail
  go_loop [3] (fun iv => ∃ i : Nat, i ≤ m.length ∧ iv = .int .i64 (i : Int) ∧ Hid (utf8 m = utf8 (m.drop i))) (fun iv => m.length - (intOf iv).toNat)
  case atStart => exact ⟨0, Nat.zero_le _, rfl, rfl⟩
  case round =>
    obtain ⟨i, hi, rfl, hu⟩ := hrel
    by_cases hlt : i < m.length
    · have hi' : (i : Int) < (m.length : Int) := by omega
      have hi0 : (0 : Int) ≤ (i : Int) := by omega
      obtain ⟨b, off, rfl, c0⟩ := hm.1.at i hlt
      have hxb := bm.out _ (getD_mem hlt)
      obtain ⟨c, Hc⟩ : ∃ c : Nat, Hid (m.getD i 0 = (c : Int)) := ⟨(m.getD i 0).toNat, (Int.toNat_of_nonneg hxb.1).symm⟩
      rw [Hc.out] at c0 hxb
      obtain ⟨hc0, hc8⟩ := hxb
      by_cases c1 : c < 128
      · have c1' : (c : Int) < 128 := by omega
        have hst : Hid (utf8 m = utf8 (m.drop (i + 1))) := by
          show _ = _
          rw [hu.out, drop_cons hlt, Hc.out, utf8_cons, if_pos (by unfold usize; rw [if_pos c1'])]
        clear hu Hc
        go_wp2_with fail
        go_round
        case rel => exact ⟨i + 1, hlt, by go_num, hst⟩
        case measure => simp [intOf]; omega
      have c1' : ¬ (c : Int) < 128 := by omega
      by_cases c2 : c < 192
      · have c2' : ¬ (192 : Int) ≤ (c : Int) := by omega
        have c3' : ¬ (224 : Int) ≤ (c : Int) := by omega
        have c4' : ¬ (240 : Int) ≤ (c : Int) := by omega
        have hst : Hid (utf8 m = false) := by
          show _ = _
          have hus : usize (c : Int) = 9 := by unfold usize; rw [if_neg c1', if_pos (by omega)]
          rw [hu.out, drop_cons hlt, Hc.out, utf8_cons, hus, if_neg (by decide), if_pos (.inl rfl)]
        clear hu Hc
        go_wp2_with fail
        go_ret
        exact ⟨by rw [hst.out]; rfl, rfl⟩
      by_cases c5 : 248 ≤ c
      · have c2' : (192 : Int) ≤ (c : Int) := by omega
        have c2'' : ¬ (c : Int) < 224 := by omega
        have c3' : (224 : Int) ≤ (c : Int) := by omega
        have c3'' : ¬ (c : Int) < 240 := by omega
        have c4' : (240 : Int) ≤ (c : Int) := by omega
        have c4'' : ¬ (c : Int) < 248 := by omega
        have hst : Hid (utf8 m = false) := by
          show _ = _
          have hus : usize (c : Int) = 9 := by unfold usize; rw [if_neg c1', if_neg (by omega), if_neg (by omega), if_neg (by omega), if_neg (by omega)]
          rw [hu.out, drop_cons hlt, Hc.out, utf8_cons, hus, if_neg (by decide), if_pos (.inl rfl)]
        clear hu Hc
        go_wp2_with fail
        go_ret
        exact ⟨by rw [hst.out]; rfl, rfl⟩
      by_cases d1 : c < 224
      · skip
        have c2' : (192 : Int) ≤ (c : Int) := by omega
        have c2'' : (c : Int) < 224 := by omega
        have hus : usize (c : Int) = 1 := by unfold usize; rw [if_neg c1', if_neg (by omega), if_pos (by omega)]
        have hst : Hid (utf8 m = if (m.drop (i + 1)).length < 1 then false else (ucont ((m.drop (i + 1)).take 1) && uright (uval (ufirst (c : Int) 1) ((m.drop (i + 1)).take 1)) (ulow 1) && utf8 (m.drop (i + 1 + 1)))) := by
          show _ = _
          rw [hu.out]
          exact utf8_step hlt Hc.out hus (by decide) (by decide)
        clear hu Hc hus
        by_cases hsh : m.length - i - 1 < 1
        · have hsh' : (m.length : Int) - (i : Int) - 1 < 1 := by omega
          have hr : Hid (utf8 m = false) := by show _ = _; rw [hst.out, if_pos (by rw [List.length_drop]; omega)]
          clear hst
          go_wp2_with fail
          go_ret
          exact ⟨by rw [hr.out]; rfl, rfl⟩
        have hsh' : ¬ (m.length : Int) - (i : Int) - 1 < 1 := by omega
        have hst : Hid (utf8 m = (ucont ((m.drop (i + 1)).take 1) && uright (uval (ufirst (c : Int) 1) ((m.drop (i + 1)).take 1)) (ulow 1) && utf8 (m.drop (i + 1 + 1)))) := by show _ = _; rw [hst.out, if_neg (by rw [List.length_drop]; omega)]
        obtain ⟨f, Hf⟩ : ∃ f : Nat, Hid (ufirst (c : Int) 1 = (f : Int) ∧ f < 32) := ⟨c % 32, show _ ∧ _ from ⟨by unfold ufirst; rw [if_pos rfl]; push_cast; rfl, by omega⟩⟩
        have hcf : bits .and .i64 (c : Int) 31 = (f : Int) := by have := Hf.out.1; unfold ufirst at this; rw [if_pos rfl] at this; rw [← this]; exact (and_i64 ⟨c, by omega⟩).1
        go_upto_region 17 with fail
        clear hcf
        go_loop [4, 7] (fun cv kv => ∃ K : Nat, 1 ≤ K ∧ K ≤ 2 ∧ kv = .int .i64 (K : Int) ∧ cv = .int .i64 (uval (f : Int) ((m.drop (i + 1)).take (K - 1))) ∧ Hid (ucont ((m.drop (i + 1)).take (K - 1)) = true)) (fun _ kv => 1 + 1 - (intOf kv).toNat)
        case atStart => exact ⟨1, Nat.le_refl _, by decide, rfl, rfl, rfl⟩
        case round =>
          obtain ⟨K, hK1, hK, rfl, rfl, hcont⟩ := hrel
          have hK0 : (0 : Int) ≤ (K : Int) := by omega
          by_cases hks : K ≤ 1
          · have hks' : (K : Int) ≤ 1 := by omega
            obtain ⟨j, Hj⟩ : ∃ j, Hid (i + 1 + (K - 1) = j) := ⟨_, rfl⟩
            have hj : j < m.length := by have := Hj.out; omega
            have e1 : (i : Int) + (K : Int) = (j : Int) := by have := Hj.out; omega
            have hj0 : (0 : Int) ≤ (j : Int) := by omega
            have hj' : (j : Int) < (m.length : Int) := by omega
            obtain ⟨b2, off2, e2, d0⟩ := hm.1.at j hj
            simp only [Option.some.injEq, Addr.mk.injEq, and_true] at e2
            obtain ⟨rfl, rfl⟩ := e2
            have hxb2 := bm.out _ (getD_mem hj)
            obtain ⟨x, Hx⟩ : ∃ x : Nat, Hid (m.getD j 0 = (x : Int)) := ⟨(m.getD j 0).toNat, (Int.toNat_of_nonneg hxb2.1).symm⟩
            rw [Hx.out] at d0 hxb2
            obtain ⟨hx0, hx8⟩ := hxb2
            obtain ⟨y, Hy⟩ : ∃ y : Nat, Hid (uval (f : Int) ((m.drop (i + 1)).take (K - 1)) = (y : Int) ∧ y < 16777216) := by
              have := uval_bound ((m.drop (i + 1)).take (K - 1)) (f : Int) 32 (by omega) (by have := Hf.out.2; omega)
              rw [List.length_take, List.length_drop, Nat.min_eq_left (by omega)] at this
              have h2 : (64 : Nat) ^ (K - 1) ≤ 64 ^ 3 := Nat.pow_le_pow_right (by decide) (by omega)
              exact ⟨(uval (f : Int) ((m.drop (i + 1)).take (K - 1))).toNat, show _ ∧ _ from ⟨(Int.toNat_of_nonneg this.1).symm, by omega⟩⟩
            have hT : Hid ((m.drop (i + 1)).take K = (m.drop (i + 1)).take (K - 1) ++ [(x : Int)]) := by
              show _ = _
              have := getD_drop m (i + 1) (K - 1) (by omega)
              rwa [Hj.out, Hx.out, show K - 1 + 1 = K by omega] at this
            rw [Hy.out.1]
            have hy0 : (0 : Int) ≤ (y : Int) := by omega
            have hy1 : (y : Int) < 16777216 := by have := Hy.out.2; omega
            have h192 := and_192_nat (b := x) (by omega)
            by_cases hok : 128 ≤ x ∧ x < 192
            · have h128 : ((x / 64 * 64 : Nat) : Int) = 128 := by omega
              rw [h128] at h192
              have hor : Hid (bits .or .i64 ((y : Int) * 64) ((x : Int) % 64) = (y : Int) * 64 + (x : Int) % 64) := by have := or_six (x := y) (y := x % 64) (by omega) Hy.out.2; show _ = _; push_cast at this; exact this
              have hok' := show Hid _ from hok
              clear hok h128
              replace hor := hor.out
              go_wp2_with fail
              go_round
              case rel => exact ⟨K + 1, by omega, by omega, by go_num, by rw [show K + 1 - 1 = K by omega, hT.out, uval_snoc, Hy.out.1], by show _ = _; rw [show K + 1 - 1 = K by omega, hT.out, ucont_snoc, hcont.out, decide_eq_true (by have := hok'.out; omega)]; rfl⟩
              case measure => simp [intOf]; omega
            · have hne : Hid (((x / 64 * 64 : Nat) : Int) ≠ 128) := by show _ ≠ _; omega
              obtain ⟨z, Hz⟩ : ∃ z : Int, Hid (((x / 64 * 64 : Nat) : Int) = z) := ⟨_, rfl⟩
              rw [Hz.out] at h192 hne
              have hz1 : (z == 128) = false := beq_eq_false_iff_ne.2 hne.out
              have hz2 : (z != 128) = true := by rw [bne, hz1]; rfl
              have hr : Hid (utf8 m = false) := by
                show _ = _
                rw [hst.out, ucont_false (i := K - 1) (by rw [List.length_take, List.length_drop]; omega) (by
                  have e : ((m.drop (i + 1)).take 1).getD (K - 1) 0 = (x : Int) := by
                    have h1 : K - 1 < 1 := by omega
                    have := Hx.out
                    rw [← Hj.out] at this
                    simp only [List.getD, List.getElem?_take, h1, if_pos, List.getElem?_drop] at this ⊢
                    exact this
                  rw [e]; omega)]
                rfl
              clear hst hok Hz
              go_wp2_with fail
              go_ret
              exact ⟨by rw [hr.out]; rfl, rfl⟩
          · obtain rfl : K = 2 := by omega
            obtain ⟨v, Hv⟩ : ∃ v : Int, Hid (uval (f : Int) ((m.drop (i + 1)).take 1) = v) := ⟨_, rfl⟩
            have hcont : Hid (ucont ((m.drop (i + 1)).take 1) = true) := hcont
            have hst : Hid (utf8 m = (uright v (ulow 1) && utf8 (m.drop (i + 1 + 1)))) := by show _ = _; rw [hst.out, hcont.out, Bool.true_and, ← Hv.out, Hf.out.1]
            rw [show uval (f : Int) ((m.drop (i + 1)).take (2 - 1)) = v from Hv.out]
            have hks' : ¬ (((2 : Nat)) : Int) ≤ 1 := by decide
            by_cases v1 : v < 128
            · have hr : Hid (utf8 m = false) := by show _ = _; rw [hst.out, uright, decide_eq_false (by unfold ulow; rw [if_pos rfl]; omega)]; rfl
              clear hst
              go_wp2_with fail
              go_ret
              exact ⟨by rw [hr.out]; rfl, rfl⟩
            by_cases v2 : 1114111 < v
            · have hr : Hid (utf8 m = false) := by show _ = _; rw [hst.out, uright, decide_eq_false (by unfold ulow; rw [if_pos rfl]; omega)]; rfl
              clear hst
              go_wp2_with fail
              go_ret
              exact ⟨by rw [hr.out]; rfl, rfl⟩
            by_cases v3 : 55296 ≤ v ∧ v ≤ 57343
            · have hr : Hid (utf8 m = false) := by show _ = _; rw [hst.out, uright, decide_eq_false (by unfold ulow; rw [if_pos rfl]; omega)]; rfl
              clear hst
              go_wp2_with fail
              refine (pin_is _ _ _ _).mono ?_
              rintro e w' ⟨rfl, rfl⟩
              rw [decide_eq_true v3]
              go_wp2_with fail
              go_ret
              exact ⟨by rw [hr.out]; rfl, rfl⟩
            have hr : Hid (utf8 m = utf8 (m.drop (i + 1 + 1))) := by show _ = _; rw [hst.out, uright, decide_eq_true (by unfold ulow; rw [if_pos rfl]; omega), Bool.true_and]
            clear hst
            go_wp2_with fail
            refine (pin_is _ _ _ _).mono ?_
            rintro e w' ⟨rfl, rfl⟩
            rw [decide_eq_false v3]
            go_wp2_with fail
            go_round
            case rel => exact ⟨i + 1 + 1, by omega, by go_num, hr⟩
            case measure => simp [intOf]; omega
      by_cases d2 : c < 240
      · skip
        have c2' : (192 : Int) ≤ (c : Int) := by omega
        have c2'' : ¬ (c : Int) < 224 := by omega
        have c3' : (224 : Int) ≤ (c : Int) := by omega
        have c3'' : (c : Int) < 240 := by omega
        have hus : usize (c : Int) = 2 := by unfold usize; rw [if_neg c1', if_neg (by omega), if_neg (by omega), if_pos (by omega)]
        have hst : Hid (utf8 m = if (m.drop (i + 1)).length < 2 then false else (ucont ((m.drop (i + 1)).take 2) && uright (uval (ufirst (c : Int) 2) ((m.drop (i + 1)).take 2)) (ulow 2) && utf8 (m.drop (i + 1 + 2)))) := by
          show _ = _
          rw [hu.out]
          exact utf8_step hlt Hc.out hus (by decide) (by decide)
        clear hu Hc hus
        by_cases hsh : m.length - i - 1 < 2
        · have hsh' : (m.length : Int) - (i : Int) - 1 < 2 := by omega
          have hr : Hid (utf8 m = false) := by show _ = _; rw [hst.out, if_pos (by rw [List.length_drop]; omega)]
          clear hst
          go_wp2_with fail
          go_ret
          exact ⟨by rw [hr.out]; rfl, rfl⟩
        have hsh' : ¬ (m.length : Int) - (i : Int) - 1 < 2 := by omega
        have hst : Hid (utf8 m = (ucont ((m.drop (i + 1)).take 2) && uright (uval (ufirst (c : Int) 2) ((m.drop (i + 1)).take 2)) (ulow 2) && utf8 (m.drop (i + 1 + 2)))) := by show _ = _; rw [hst.out, if_neg (by rw [List.length_drop]; omega)]
        obtain ⟨f, Hf⟩ : ∃ f : Nat, Hid (ufirst (c : Int) 2 = (f : Int) ∧ f < 32) := ⟨c % 16, show _ ∧ _ from ⟨by unfold ufirst; rw [if_neg (by decide), if_pos rfl]; push_cast; rfl, by omega⟩⟩
        have hcf : bits .and .i64 (c : Int) 15 = (f : Int) := by have := Hf.out.1; unfold ufirst at this; rw [if_neg (by decide), if_pos rfl] at this; rw [← this]; exact (and_i64 ⟨c, by omega⟩).2.1
        go_upto_region 17 with fail
        clear hcf
        go_loop [4, 7] (fun cv kv => ∃ K : Nat, 1 ≤ K ∧ K ≤ 3 ∧ kv = .int .i64 (K : Int) ∧ cv = .int .i64 (uval (f : Int) ((m.drop (i + 1)).take (K - 1))) ∧ Hid (ucont ((m.drop (i + 1)).take (K - 1)) = true)) (fun _ kv => 2 + 1 - (intOf kv).toNat)
        case atStart => exact ⟨1, Nat.le_refl _, by decide, rfl, rfl, rfl⟩
        case round =>
          obtain ⟨K, hK1, hK, rfl, rfl, hcont⟩ := hrel
          have hK0 : (0 : Int) ≤ (K : Int) := by omega
          by_cases hks : K ≤ 2
          · have hks' : (K : Int) ≤ 2 := by omega
            obtain ⟨j, Hj⟩ : ∃ j, Hid (i + 1 + (K - 1) = j) := ⟨_, rfl⟩
            have hj : j < m.length := by have := Hj.out; omega
            have e1 : (i : Int) + (K : Int) = (j : Int) := by have := Hj.out; omega
            have hj0 : (0 : Int) ≤ (j : Int) := by omega
            have hj' : (j : Int) < (m.length : Int) := by omega
            obtain ⟨b2, off2, e2, d0⟩ := hm.1.at j hj
            simp only [Option.some.injEq, Addr.mk.injEq, and_true] at e2
            obtain ⟨rfl, rfl⟩ := e2
            have hxb2 := bm.out _ (getD_mem hj)
            obtain ⟨x, Hx⟩ : ∃ x : Nat, Hid (m.getD j 0 = (x : Int)) := ⟨(m.getD j 0).toNat, (Int.toNat_of_nonneg hxb2.1).symm⟩
            rw [Hx.out] at d0 hxb2
            obtain ⟨hx0, hx8⟩ := hxb2
            obtain ⟨y, Hy⟩ : ∃ y : Nat, Hid (uval (f : Int) ((m.drop (i + 1)).take (K - 1)) = (y : Int) ∧ y < 16777216) := by
              have := uval_bound ((m.drop (i + 1)).take (K - 1)) (f : Int) 32 (by omega) (by have := Hf.out.2; omega)
              rw [List.length_take, List.length_drop, Nat.min_eq_left (by omega)] at this
              have h2 : (64 : Nat) ^ (K - 1) ≤ 64 ^ 3 := Nat.pow_le_pow_right (by decide) (by omega)
              exact ⟨(uval (f : Int) ((m.drop (i + 1)).take (K - 1))).toNat, show _ ∧ _ from ⟨(Int.toNat_of_nonneg this.1).symm, by omega⟩⟩
            have hT : Hid ((m.drop (i + 1)).take K = (m.drop (i + 1)).take (K - 1) ++ [(x : Int)]) := by
              show _ = _
              have := getD_drop m (i + 1) (K - 1) (by omega)
              rwa [Hj.out, Hx.out, show K - 1 + 1 = K by omega] at this
            rw [Hy.out.1]
            have hy0 : (0 : Int) ≤ (y : Int) := by omega
            have hy1 : (y : Int) < 16777216 := by have := Hy.out.2; omega
            have h192 := and_192_nat (b := x) (by omega)
            by_cases hok : 128 ≤ x ∧ x < 192
            · have h128 : ((x / 64 * 64 : Nat) : Int) = 128 := by omega
              rw [h128] at h192
              have hor : Hid (bits .or .i64 ((y : Int) * 64) ((x : Int) % 64) = (y : Int) * 64 + (x : Int) % 64) := by have := or_six (x := y) (y := x % 64) (by omega) Hy.out.2; show _ = _; push_cast at this; exact this
              have hok' := show Hid _ from hok
              clear hok h128
              replace hor := hor.out
              go_wp2_with fail
              go_round
              case rel => exact ⟨K + 1, by omega, by omega, by go_num, by rw [show K + 1 - 1 = K by omega, hT.out, uval_snoc, Hy.out.1], by show _ = _; rw [show K + 1 - 1 = K by omega, hT.out, ucont_snoc, hcont.out, decide_eq_true (by have := hok'.out; omega)]; rfl⟩
              case measure => simp [intOf]; omega
            · have hne : Hid (((x / 64 * 64 : Nat) : Int) ≠ 128) := by show _ ≠ _; omega
              obtain ⟨z, Hz⟩ : ∃ z : Int, Hid (((x / 64 * 64 : Nat) : Int) = z) := ⟨_, rfl⟩
              rw [Hz.out] at h192 hne
              have hz1 : (z == 128) = false := beq_eq_false_iff_ne.2 hne.out
              have hz2 : (z != 128) = true := by rw [bne, hz1]; rfl
              have hr : Hid (utf8 m = false) := by
                show _ = _
                rw [hst.out, ucont_false (i := K - 1) (by rw [List.length_take, List.length_drop]; omega) (by
                  have e : ((m.drop (i + 1)).take 2).getD (K - 1) 0 = (x : Int) := by
                    have h1 : K - 1 < 2 := by omega
                    have := Hx.out
                    rw [← Hj.out] at this
                    simp only [List.getD, List.getElem?_take, h1, if_pos, List.getElem?_drop] at this ⊢
                    exact this
                  rw [e]; omega)]
                rfl
              clear hst hok Hz
              go_wp2_with fail
              go_ret
              exact ⟨by rw [hr.out]; rfl, rfl⟩
          · obtain rfl : K = 3 := by omega
            obtain ⟨v, Hv⟩ : ∃ v : Int, Hid (uval (f : Int) ((m.drop (i + 1)).take 2) = v) := ⟨_, rfl⟩
            have hcont : Hid (ucont ((m.drop (i + 1)).take 2) = true) := hcont
            have hst : Hid (utf8 m = (uright v (ulow 2) && utf8 (m.drop (i + 1 + 2)))) := by show _ = _; rw [hst.out, hcont.out, Bool.true_and, ← Hv.out, Hf.out.1]
            rw [show uval (f : Int) ((m.drop (i + 1)).take (3 - 1)) = v from Hv.out]
            have hks' : ¬ (((3 : Nat)) : Int) ≤ 2 := by decide
            by_cases v1 : v < 2048
            · have hr : Hid (utf8 m = false) := by show _ = _; rw [hst.out, uright, decide_eq_false (by unfold ulow; rw [if_neg (by decide), if_pos rfl]; omega)]; rfl
              clear hst
              go_wp2_with fail
              go_ret
              exact ⟨by rw [hr.out]; rfl, rfl⟩
            by_cases v2 : 1114111 < v
            · have hr : Hid (utf8 m = false) := by show _ = _; rw [hst.out, uright, decide_eq_false (by unfold ulow; rw [if_neg (by decide), if_pos rfl]; omega)]; rfl
              clear hst
              go_wp2_with fail
              go_ret
              exact ⟨by rw [hr.out]; rfl, rfl⟩
            by_cases v3 : 55296 ≤ v ∧ v ≤ 57343
            · have hr : Hid (utf8 m = false) := by show _ = _; rw [hst.out, uright, decide_eq_false (by unfold ulow; rw [if_neg (by decide), if_pos rfl]; omega)]; rfl
              clear hst
              go_wp2_with fail
              refine (pin_is _ _ _ _).mono ?_
              rintro e w' ⟨rfl, rfl⟩
              rw [decide_eq_true v3]
              go_wp2_with fail
              go_ret
              exact ⟨by rw [hr.out]; rfl, rfl⟩
            have hr : Hid (utf8 m = utf8 (m.drop (i + 1 + 2))) := by show _ = _; rw [hst.out, uright, decide_eq_true (by unfold ulow; rw [if_neg (by decide), if_pos rfl]; omega), Bool.true_and]
            clear hst
            go_wp2_with fail
            refine (pin_is _ _ _ _).mono ?_
            rintro e w' ⟨rfl, rfl⟩
            rw [decide_eq_false v3]
            go_wp2_with fail
            go_round
            case rel => exact ⟨i + 1 + 2, by omega, by go_num, hr⟩
            case measure => simp [intOf]; omega
      · skip
        have c2' : (192 : Int) ≤ (c : Int) := by omega
        have c2'' : ¬ (c : Int) < 224 := by omega
        have c3' : (224 : Int) ≤ (c : Int) := by omega
        have c3'' : ¬ (c : Int) < 240 := by omega
        have c4' : (240 : Int) ≤ (c : Int) := by omega
        have c4'' : (c : Int) < 248 := by omega
        have hus : usize (c : Int) = 3 := by unfold usize; rw [if_neg c1', if_neg (by omega), if_neg (by omega), if_neg (by omega), if_pos (by omega)]
        have hst : Hid (utf8 m = if (m.drop (i + 1)).length < 3 then false else (ucont ((m.drop (i + 1)).take 3) && uright (uval (ufirst (c : Int) 3) ((m.drop (i + 1)).take 3)) (ulow 3) && utf8 (m.drop (i + 1 + 3)))) := by
          show _ = _
          rw [hu.out]
          exact utf8_step hlt Hc.out hus (by decide) (by decide)
        clear hu Hc hus
        by_cases hsh : m.length - i - 1 < 3
        · have hsh' : (m.length : Int) - (i : Int) - 1 < 3 := by omega
          have hr : Hid (utf8 m = false) := by show _ = _; rw [hst.out, if_pos (by rw [List.length_drop]; omega)]
          clear hst
          go_wp2_with fail
          go_ret
          exact ⟨by rw [hr.out]; rfl, rfl⟩
        have hsh' : ¬ (m.length : Int) - (i : Int) - 1 < 3 := by omega
        have hst : Hid (utf8 m = (ucont ((m.drop (i + 1)).take 3) && uright (uval (ufirst (c : Int) 3) ((m.drop (i + 1)).take 3)) (ulow 3) && utf8 (m.drop (i + 1 + 3)))) := by show _ = _; rw [hst.out, if_neg (by rw [List.length_drop]; omega)]
        obtain ⟨f, Hf⟩ : ∃ f : Nat, Hid (ufirst (c : Int) 3 = (f : Int) ∧ f < 32) := ⟨c % 8, show _ ∧ _ from ⟨by unfold ufirst; rw [if_neg (by decide), if_neg (by decide)]; push_cast; rfl, by omega⟩⟩
        have hcf : bits .and .i64 (c : Int) 7 = (f : Int) := by have := Hf.out.1; unfold ufirst at this; rw [if_neg (by decide), if_neg (by decide)] at this; rw [← this]; exact (and_i64 ⟨c, by omega⟩).2.2
        go_upto_region 17 with fail
        clear hcf
        go_loop [4, 7] (fun cv kv => ∃ K : Nat, 1 ≤ K ∧ K ≤ 4 ∧ kv = .int .i64 (K : Int) ∧ cv = .int .i64 (uval (f : Int) ((m.drop (i + 1)).take (K - 1))) ∧ Hid (ucont ((m.drop (i + 1)).take (K - 1)) = true)) (fun _ kv => 3 + 1 - (intOf kv).toNat)
        case atStart => exact ⟨1, Nat.le_refl _, by decide, rfl, rfl, rfl⟩
        case round =>
          obtain ⟨K, hK1, hK, rfl, rfl, hcont⟩ := hrel
          have hK0 : (0 : Int) ≤ (K : Int) := by omega
          by_cases hks : K ≤ 3
          · have hks' : (K : Int) ≤ 3 := by omega
            obtain ⟨j, Hj⟩ : ∃ j, Hid (i + 1 + (K - 1) = j) := ⟨_, rfl⟩
            have hj : j < m.length := by have := Hj.out; omega
            have e1 : (i : Int) + (K : Int) = (j : Int) := by have := Hj.out; omega
            have hj0 : (0 : Int) ≤ (j : Int) := by omega
            have hj' : (j : Int) < (m.length : Int) := by omega
            obtain ⟨b2, off2, e2, d0⟩ := hm.1.at j hj
            simp only [Option.some.injEq, Addr.mk.injEq, and_true] at e2
            obtain ⟨rfl, rfl⟩ := e2
            have hxb2 := bm.out _ (getD_mem hj)
            obtain ⟨x, Hx⟩ : ∃ x : Nat, Hid (m.getD j 0 = (x : Int)) := ⟨(m.getD j 0).toNat, (Int.toNat_of_nonneg hxb2.1).symm⟩
            rw [Hx.out] at d0 hxb2
            obtain ⟨hx0, hx8⟩ := hxb2
            obtain ⟨y, Hy⟩ : ∃ y : Nat, Hid (uval (f : Int) ((m.drop (i + 1)).take (K - 1)) = (y : Int) ∧ y < 16777216) := by
              have := uval_bound ((m.drop (i + 1)).take (K - 1)) (f : Int) 32 (by omega) (by have := Hf.out.2; omega)
              rw [List.length_take, List.length_drop, Nat.min_eq_left (by omega)] at this
              have h2 : (64 : Nat) ^ (K - 1) ≤ 64 ^ 3 := Nat.pow_le_pow_right (by decide) (by omega)
              exact ⟨(uval (f : Int) ((m.drop (i + 1)).take (K - 1))).toNat, show _ ∧ _ from ⟨(Int.toNat_of_nonneg this.1).symm, by omega⟩⟩
            have hT : Hid ((m.drop (i + 1)).take K = (m.drop (i + 1)).take (K - 1) ++ [(x : Int)]) := by
              show _ = _
              have := getD_drop m (i + 1) (K - 1) (by omega)
              rwa [Hj.out, Hx.out, show K - 1 + 1 = K by omega] at this
            rw [Hy.out.1]
            have hy0 : (0 : Int) ≤ (y : Int) := by omega
            have hy1 : (y : Int) < 16777216 := by have := Hy.out.2; omega
            have h192 := and_192_nat (b := x) (by omega)
            by_cases hok : 128 ≤ x ∧ x < 192
            · have h128 : ((x / 64 * 64 : Nat) : Int) = 128 := by omega
              rw [h128] at h192
              have hor : Hid (bits .or .i64 ((y : Int) * 64) ((x : Int) % 64) = (y : Int) * 64 + (x : Int) % 64) := by have := or_six (x := y) (y := x % 64) (by omega) Hy.out.2; show _ = _; push_cast at this; exact this
              have hok' := show Hid _ from hok
              clear hok h128
              replace hor := hor.out
              go_wp2_with fail
              go_round
              case rel => exact ⟨K + 1, by omega, by omega, by go_num, by rw [show K + 1 - 1 = K by omega, hT.out, uval_snoc, Hy.out.1], by show _ = _; rw [show K + 1 - 1 = K by omega, hT.out, ucont_snoc, hcont.out, decide_eq_true (by have := hok'.out; omega)]; rfl⟩
              case measure => simp [intOf]; omega
            · have hne : Hid (((x / 64 * 64 : Nat) : Int) ≠ 128) := by show _ ≠ _; omega
              obtain ⟨z, Hz⟩ : ∃ z : Int, Hid (((x / 64 * 64 : Nat) : Int) = z) := ⟨_, rfl⟩
              rw [Hz.out] at h192 hne
              have hz1 : (z == 128) = false := beq_eq_false_iff_ne.2 hne.out
              have hz2 : (z != 128) = true := by rw [bne, hz1]; rfl
              have hr : Hid (utf8 m = false) := by
                show _ = _
                rw [hst.out, ucont_false (i := K - 1) (by rw [List.length_take, List.length_drop]; omega) (by
                  have e : ((m.drop (i + 1)).take 3).getD (K - 1) 0 = (x : Int) := by
                    have h1 : K - 1 < 3 := by omega
                    have := Hx.out
                    rw [← Hj.out] at this
                    simp only [List.getD, List.getElem?_take, h1, if_pos, List.getElem?_drop] at this ⊢
                    exact this
                  rw [e]; omega)]
                rfl
              clear hst hok Hz
              go_wp2_with fail
              go_ret
              exact ⟨by rw [hr.out]; rfl, rfl⟩
          · obtain rfl : K = 4 := by omega
            obtain ⟨v, Hv⟩ : ∃ v : Int, Hid (uval (f : Int) ((m.drop (i + 1)).take 3) = v) := ⟨_, rfl⟩
            have hcont : Hid (ucont ((m.drop (i + 1)).take 3) = true) := hcont
            have hst : Hid (utf8 m = (uright v (ulow 3) && utf8 (m.drop (i + 1 + 3)))) := by show _ = _; rw [hst.out, hcont.out, Bool.true_and, ← Hv.out, Hf.out.1]
            rw [show uval (f : Int) ((m.drop (i + 1)).take (4 - 1)) = v from Hv.out]
            have hks' : ¬ (((4 : Nat)) : Int) ≤ 3 := by decide
            by_cases v1 : v < 65536
            · have hr : Hid (utf8 m = false) := by show _ = _; rw [hst.out, uright, decide_eq_false (by unfold ulow; rw [if_neg (by decide), if_neg (by decide)]; omega)]; rfl
              clear hst
              go_wp2_with fail
              go_ret
              exact ⟨by rw [hr.out]; rfl, rfl⟩
            by_cases v2 : 1114111 < v
            · have hr : Hid (utf8 m = false) := by show _ = _; rw [hst.out, uright, decide_eq_false (by unfold ulow; rw [if_neg (by decide), if_neg (by decide)]; omega)]; rfl
              clear hst
              go_wp2_with fail
              go_ret
              exact ⟨by rw [hr.out]; rfl, rfl⟩
            by_cases v3 : 55296 ≤ v ∧ v ≤ 57343
            · have hr : Hid (utf8 m = false) := by show _ = _; rw [hst.out, uright, decide_eq_false (by unfold ulow; rw [if_neg (by decide), if_neg (by decide)]; omega)]; rfl
              clear hst
              go_wp2_with fail
              refine (pin_is _ _ _ _).mono ?_
              rintro e w' ⟨rfl, rfl⟩
              rw [decide_eq_true v3]
              go_wp2_with fail
              go_ret
              exact ⟨by rw [hr.out]; rfl, rfl⟩
            have hr : Hid (utf8 m = utf8 (m.drop (i + 1 + 3))) := by show _ = _; rw [hst.out, uright, decide_eq_true (by unfold ulow; rw [if_neg (by decide), if_neg (by decide)]; omega), Bool.true_and]
            clear hst
            go_wp2_with fail
            refine (pin_is _ _ _ _).mono ?_
            rintro e w' ⟨rfl, rfl⟩
            rw [decide_eq_false v3]
            go_wp2_with fail
            go_round
            case rel => exact ⟨i + 1 + 3, by omega, by go_num, hr⟩
            case measure => simp [intOf]; omega
    · obtain rfl : i = m.length := by omega
      have hi' : ¬ (m.length : Int) < (m.length : Int) := by omega
      have hst : Hid (utf8 m = true) := by show _ = _; rw [hu.out, List.drop_length, utf8_nil]
      clear hu
      go_wp2_with fail
      go_ret
      exact ⟨by rw [hst.out]; rfl, rfl⟩
end Go.Proofs.YtaabcllghniaoaaDoor
