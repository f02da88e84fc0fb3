/- The page's items, whole; its Encode. -/
import Derived.Test.YtaabcllghniaoabDoorCJ6
import Derived.Test.YtaabcllghniaoabDoorCF
namespace Go.Proofs.YtaabcllghniaoabDoor
open Go Go.RowKit
set_option maxRecDepth 100000 in
set_option maxHeartbeats 2000000 in
theorem pitem_big5 {a : Option Addr} {cap : Nat} {l : List Tk} {w : World} (hm : Toks w a cap l) (hl : Light l) (q : Nat) {n : Int} (ht : l[q]? = some ⟨5, n, []⟩) (h0 : ¬ n < 0) (D : Int) (h : 64 < n ∨ ¬ 64 < n ∧ 6 ≤ D) : Calls Tryd.prog 23 #[.slice a l.length cap, .int .i64 q, .int .i64 D] w fun e w' => e = .returned (.agg (wkv 0 (.slice none 0 0) true)) ∧ Below w.heap.size w w' := by
  have hlen : (l.length : Int) ≤ 1000 := by have := hl.1; omega
  have hq := (List.getElem?_eq_some_iff.1 ht).1
  have hq' : (q : Int) < (l.length : Int) := by omega
  have hq0 : (0 : Int) ≤ (q : Int) := by omega
  obtain ⟨b, off, rfl, hat⟩ := hm.1.at ht
  go_enter Tryd.func23, Tryd.ntmps23
  go_upto_region 2 with fail
  have hK := ((Kp.nil w).alloc (wkv 0 (.slice none 0 0) false) 53).alloc (wkv 0 (.slice none 0 0) true) 53
  rw [World.size_alloc] at hK
  rw [show (w.alloc (.cells #[.int .i64 0, .slice none 0 0, .bool false] 53)).alloc (.cells #[.int .i64 0, .slice none 0 0, .bool true] 53) = (w.alloc (.cells (wkv 0 (.slice none 0 0) false) 53)).alloc (.cells (wkv 0 (.slice none 0 0) true) 53) from rfl]
  generalize (w.alloc (.cells (wkv 0 (.slice none 0 0) false) 53)).alloc (.cells (wkv 0 (.slice none 0 0) true) 53) = W at *
  obtain ⟨bR, HbR⟩ : ∃ b, Hid (w.heap.size = b) := ⟨_, rfl⟩
  obtain ⟨bN, HbN⟩ : ∃ b, Hid (bR + 1 = b) := ⟨_, rfl⟩
  rw [HbR.out, HbN.out] at hK ⊢
  obtain ⟨d1, d2, _, d3, ⟨ta, tc, rfl, htw⟩, -⟩ := hat
  have hbl := World.block_lt_of_cell? w _ d1
  have c1 := (hK.2.cell (p := ⟨b, off + q * 3, none⟩) hbl).trans d1
  have c2 := (hK.2.cell (p := ⟨b, off + q * 3 + 1, none⟩) hbl).trans d2
  have c3 := (hK.2.cell (p := ⟨b, off + q * 3 + 2, none⟩) hbl).trans d3
  clear d1 d2 d3
  simp only [List.length_nil] at c3
  go_upto_region 5 with fail
  have hlR := (hK.at bR (wkv 0 (.slice none 0 0) false) 53 (.tail _ (.head _))).lt
  have hlN := (hK.at bN (wkv 0 (.slice none 0 0) true) 53 (.head _)).lt
  have hK := hK.alloc (tkv 5 n (.slice ta 0 tc)) 30
  rw [show W.alloc (.cells #[.int .i64 5, .int .i64 n, .slice ta 0 tc] 30) = W.alloc (.cells (tkv 5 n (.slice ta 0 tc)) 30) from rfl]
  generalize W.alloc (.cells (tkv 5 n (.slice ta 0 tc)) 30) = W1 at *
  have htb : Txt W1 ta tc [] := htw.below hK.2
  obtain ⟨bT, HbT⟩ : ∃ b, Hid (W.heap.size = b) := ⟨_, rfl⟩
  rw [HbT.out] at hK hlR hlN ⊢
  clear c1 c2 c3
  obtain ⟨c1, c2, c3⟩ := own_three (hK.at bT (tkv 5 n (.slice ta 0 tc)) 30 (.head _))
  replace hlR := show Hid _ from hlR
  replace hlN := show Hid _ from hlN
  rcases h with h | ⟨h, h'⟩
  · skip
    go_upto_region 21 with fail
    go_wp2_with (first
      | refine wpList_load_own (by rfl) 53 (.tmp 7) (by rfl) bN (by rfl) (wkv 0 (.slice none 0 0) true) _ (hK.at bN (wkv 0 (.slice none 0 0) true) 53 (.tail _ (.head _))) Tryd.underlying53 (by rfl) (walk_info _ _ _) ?_
      | refine wpList_store_own (op := { dst := none, op := _, type := _, pos := _, after := _, guard := _ }) rfl 53 (.tmp 6) (.tmp 116) rfl bR 0 (wkv 0 (.slice none 0 0) true) (by rfl) (by rfl) (hK.at bR (wkv 0 (.slice none 0 0) false) 53 (.tail _ (.tail _ (.head _)))) (wkv_le _ _ _ _ _ _) (walk_info _ _ _) (wkv_one _ _ _ _ _) (by rfl) ?_)
    refine bodyPost_ret (results_walk Tryd.results23 _ _ bR 0 (.slice none 0 0) true (by rfl) (own_setCells (hK.at bR (wkv 0 (.slice none 0 0) false) 53 (.tail _ (.tail _ (.head _)))) rfl)) rfl ⟨rfl, Below.setCells _ _ _ _ (by rw [HbR.out]; exact Nat.le_refl _) hK.2⟩
  · skip
    go_upto_region 21 with fail
    go_wp2_with (first
      | refine wpList_load_own (by rfl) 53 (.tmp 7) (by rfl) bN (by rfl) (wkv 0 (.slice none 0 0) true) _ (hK.at bN (wkv 0 (.slice none 0 0) true) 53 (.tail _ (.head _))) Tryd.underlying53 (by rfl) (walk_info _ _ _) ?_
      | refine wpList_store_own (op := { dst := none, op := _, type := _, pos := _, after := _, guard := _ }) rfl 53 (.tmp 6) (.tmp 116) rfl bR 0 (wkv 0 (.slice none 0 0) true) (by rfl) (by rfl) (hK.at bR (wkv 0 (.slice none 0 0) false) 53 (.tail _ (.tail _ (.head _)))) (wkv_le _ _ _ _ _ _) (walk_info _ _ _) (wkv_one _ _ _ _ _) (by rfl) ?_)
    refine bodyPost_ret (results_walk Tryd.results23 _ _ bR 0 (.slice none 0 0) true (by rfl) (own_setCells (hK.at bR (wkv 0 (.slice none 0 0) false) 53 (.tail _ (.tail _ (.head _)))) rfl)) rfl ⟨rfl, Below.setCells _ _ _ _ (by rw [HbR.out]; exact Nat.le_refl _) hK.2⟩
set_option maxRecDepth 100000 in
set_option maxHeartbeats 2000000 in
theorem pitem_big6 {a : Option Addr} {cap : Nat} {l : List Tk} {w : World} (hm : Toks w a cap l) (hl : Light l) (q : Nat) {n : Int} (ht : l[q]? = some ⟨6, n, []⟩) (h0 : ¬ n < 0) (D : Int) (h : 64 < n ∨ ¬ 64 < n ∧ 6 ≤ D) : Calls Tryd.prog 23 #[.slice a l.length cap, .int .i64 q, .int .i64 D] w fun e w' => e = .returned (.agg (wkv 0 (.slice none 0 0) true)) ∧ Below w.heap.size w w' := by
  have hlen : (l.length : Int) ≤ 1000 := by have := hl.1; omega
  have hq := (List.getElem?_eq_some_iff.1 ht).1
  have hq' : (q : Int) < (l.length : Int) := by omega
  have hq0 : (0 : Int) ≤ (q : Int) := by omega
  obtain ⟨b, off, rfl, hat⟩ := hm.1.at ht
  go_enter Tryd.func23, Tryd.ntmps23
  go_upto_region 2 with fail
  have hK := ((Kp.nil w).alloc (wkv 0 (.slice none 0 0) false) 53).alloc (wkv 0 (.slice none 0 0) true) 53
  rw [World.size_alloc] at hK
  rw [show (w.alloc (.cells #[.int .i64 0, .slice none 0 0, .bool false] 53)).alloc (.cells #[.int .i64 0, .slice none 0 0, .bool true] 53) = (w.alloc (.cells (wkv 0 (.slice none 0 0) false) 53)).alloc (.cells (wkv 0 (.slice none 0 0) true) 53) from rfl]
  generalize (w.alloc (.cells (wkv 0 (.slice none 0 0) false) 53)).alloc (.cells (wkv 0 (.slice none 0 0) true) 53) = W at *
  obtain ⟨bR, HbR⟩ : ∃ b, Hid (w.heap.size = b) := ⟨_, rfl⟩
  obtain ⟨bN, HbN⟩ : ∃ b, Hid (bR + 1 = b) := ⟨_, rfl⟩
  rw [HbR.out, HbN.out] at hK ⊢
  obtain ⟨d1, d2, _, d3, ⟨ta, tc, rfl, htw⟩, -⟩ := hat
  have hbl := World.block_lt_of_cell? w _ d1
  have c1 := (hK.2.cell (p := ⟨b, off + q * 3, none⟩) hbl).trans d1
  have c2 := (hK.2.cell (p := ⟨b, off + q * 3 + 1, none⟩) hbl).trans d2
  have c3 := (hK.2.cell (p := ⟨b, off + q * 3 + 2, none⟩) hbl).trans d3
  clear d1 d2 d3
  simp only [List.length_nil] at c3
  go_upto_region 5 with fail
  have hlR := (hK.at bR (wkv 0 (.slice none 0 0) false) 53 (.tail _ (.head _))).lt
  have hlN := (hK.at bN (wkv 0 (.slice none 0 0) true) 53 (.head _)).lt
  have hK := hK.alloc (tkv 6 n (.slice ta 0 tc)) 30
  rw [show W.alloc (.cells #[.int .i64 6, .int .i64 n, .slice ta 0 tc] 30) = W.alloc (.cells (tkv 6 n (.slice ta 0 tc)) 30) from rfl]
  generalize W.alloc (.cells (tkv 6 n (.slice ta 0 tc)) 30) = W1 at *
  have htb : Txt W1 ta tc [] := htw.below hK.2
  obtain ⟨bT, HbT⟩ : ∃ b, Hid (W.heap.size = b) := ⟨_, rfl⟩
  rw [HbT.out] at hK hlR hlN ⊢
  clear c1 c2 c3
  obtain ⟨c1, c2, c3⟩ := own_three (hK.at bT (tkv 6 n (.slice ta 0 tc)) 30 (.head _))
  replace hlR := show Hid _ from hlR
  replace hlN := show Hid _ from hlN
  rcases h with h | ⟨h, h'⟩
  · skip
    go_upto_region 21 with fail
    go_wp2_with (first
      | refine wpList_load_own (by rfl) 53 (.tmp 7) (by rfl) bN (by rfl) (wkv 0 (.slice none 0 0) true) _ (hK.at bN (wkv 0 (.slice none 0 0) true) 53 (.tail _ (.head _))) Tryd.underlying53 (by rfl) (walk_info _ _ _) ?_
      | refine wpList_store_own (op := { dst := none, op := _, type := _, pos := _, after := _, guard := _ }) rfl 53 (.tmp 6) (.tmp 116) rfl bR 0 (wkv 0 (.slice none 0 0) true) (by rfl) (by rfl) (hK.at bR (wkv 0 (.slice none 0 0) false) 53 (.tail _ (.tail _ (.head _)))) (wkv_le _ _ _ _ _ _) (walk_info _ _ _) (wkv_one _ _ _ _ _) (by rfl) ?_)
    refine bodyPost_ret (results_walk Tryd.results23 _ _ bR 0 (.slice none 0 0) true (by rfl) (own_setCells (hK.at bR (wkv 0 (.slice none 0 0) false) 53 (.tail _ (.tail _ (.head _)))) rfl)) rfl ⟨rfl, Below.setCells _ _ _ _ (by rw [HbR.out]; exact Nat.le_refl _) hK.2⟩
  · skip
    go_upto_region 21 with fail
    go_wp2_with (first
      | refine wpList_load_own (by rfl) 53 (.tmp 7) (by rfl) bN (by rfl) (wkv 0 (.slice none 0 0) true) _ (hK.at bN (wkv 0 (.slice none 0 0) true) 53 (.tail _ (.head _))) Tryd.underlying53 (by rfl) (walk_info _ _ _) ?_
      | refine wpList_store_own (op := { dst := none, op := _, type := _, pos := _, after := _, guard := _ }) rfl 53 (.tmp 6) (.tmp 116) rfl bR 0 (wkv 0 (.slice none 0 0) true) (by rfl) (by rfl) (hK.at bR (wkv 0 (.slice none 0 0) false) 53 (.tail _ (.tail _ (.head _)))) (wkv_le _ _ _ _ _ _) (walk_info _ _ _) (wkv_one _ _ _ _ _) (by rfl) ?_)
    refine bodyPost_ret (results_walk Tryd.results23 _ _ bR 0 (.slice none 0 0) true (by rfl) (own_setCells (hK.at bR (wkv 0 (.slice none 0 0) false) 53 (.tail _ (.tail _ (.head _)))) rfl)) rfl ⟨rfl, Below.setCells _ _ _ _ (by rw [HbR.out]; exact Nat.le_refl _) hK.2⟩
theorem item_def : ∀ d, ∃ f, item d = itemF f ∧ (d = 0 ∧ f = none ∨ ∃ d', d = d' + 1 ∧ f = some (item d'))
  | 0 => ⟨none, rfl, .inl ⟨rfl, rfl⟩⟩
  | d + 1 => ⟨some (item d), rfl, .inr ⟨d, rfl, rfl⟩⟩
theorem said_none {w w' : World} {n : Nat} {e : Ending} (h : e = .returned (.agg (wkv 0 (.slice none 0 0) true)) ∧ Below w.heap.size w w') : ItemSaid w w' n none e ∧ Below w.heap.size w w' := ⟨.inl ⟨h.1, .inl rfl⟩, h.2⟩
theorem said_some {w w' : World} {l : List Tk} {q N : Nat} {x : List Int} {e : Ending} (hq : q < l.length) (hN : N = x.length) (hb : Bys x) (hx : x.length ≤ 200000) (h : ∃ a' c', e = .returned (.agg (wkv ((q : Int) + 1) (.slice a' N c') false)) ∧ OwnBytes w' w.heap.size (.slice a' N c') x ∧ Below w.heap.size w w') : ItemSaid w w' l.length (some (x, l.drop (q + 1))) e ∧ Below w.heap.size w w' := by
  subst hN
  obtain ⟨a', c', rfl, hO, hB⟩ := h
  refine ⟨.inr ⟨x, l.drop (q + 1), a', c', rfl, by rw [List.length_drop]; omega, ?_, hO, hb, hx⟩, hB⟩
  rw [List.length_drop, show ((l.length : Int) - ((l.length - (q + 1) : Nat) : Int)) = (q : Int) + 1 by omega]
theorem pitem_step {l : List Tk} (hl : Light l) {a : Option Addr} {cap : Nat} (d : Nat) (hd : d ≤ 6) (ih : ∀ d', d = d' + 1 → IHs l a cap d' (6 - (d : Int) + 1)) : IHs l a cap d (6 - (d : Int)) := by
  intro q w hq hm
  rcases Nat.lt_or_ge q l.length with hlt | hge
  · obtain ⟨t, ht⟩ : ∃ t, l[q]? = some t := ⟨l[q], List.getElem?_eq_getElem hlt⟩
    have hdrop : l.drop q = t :: l.drop (q + 1) := by
      rw [List.drop_eq_getElem_cons hlt]
      congr 1
      rw [List.getElem?_eq_getElem hlt] at ht
      exact Option.some.inj ht
    have hwf := hm.1.2.2.2.1 _ (List.mem_of_getElem? ht)
    have hb := hl.2 _ (List.mem_of_getElem? ht)
    obtain ⟨f, hf, hfd⟩ := item_def d
    rw [hdrop, hf, itemF_cons]
    obtain ⟨k, n, bb⟩ := t
    simp only [Tk.wf] at hwf hb
    by_cases hbad : ((k = 3 ∨ k = 4) ∧ n ≠ 0) ∨ (¬ (k = 3 ∨ k = 4) ∧ 0 < bb.length) ∨ n < 0
    · rw [if_pos (show (⟨k, n, bb⟩ : Tk).good = false from decide_eq_false (fun h => by
        have h : ¬ ((k = 3 ∨ k = 4) ∧ n ≠ 0) ∧ ¬ (¬ (k = 3 ∨ k = 4) ∧ 0 < bb.length) ∧ 0 ≤ n ∧ n < 9223372036854775808 ∧ bb.length < 9223372036854775808 := h
        omega))]
      exact (pitem_shape hm hl q ht _ hbad).mono fun e w' h => said_none h
    have hgood : (⟨k, n, bb⟩ : Tk).good = true := decide_eq_true (show ¬ ((k = 3 ∨ k = 4) ∧ n ≠ 0) ∧ ¬ (¬ (k = 3 ∨ k = 4) ∧ 0 < bb.length) ∧ 0 ≤ n ∧ n < 9223372036854775808 ∧ bb.length < 9223372036854775808 from ⟨by omega, by omega, by omega, by omega, by omega⟩)
    rw [if_neg (by rw [hgood]; exact Bool.noConfusion)]
    dsimp only
    obtain ⟨N, rfl⟩ := Int.eq_ofNat_of_zero_le (show 0 ≤ n by omega)
    have hN : N < 9223372036854775808 := by omega
    simp only [Int.toNat_natCast]
    by_cases h1 : k = 1
    · subst h1
      obtain rfl := List.eq_nil_of_length_eq_zero (show bb.length = 0 by omega)
      rw [if_pos rfl]
      refine (pitem_int hm hl q hN ht _).mono fun e w' h => said_some hlt (hd_length _ _).symm (hd_bytes (by decide)) (by rw [hd_length]; have := hsize_le N; omega) h
    rw [if_neg h1]
    by_cases h2 : k = 2
    · subst h2
      obtain rfl := List.eq_nil_of_length_eq_zero (show bb.length = 0 by omega)
      rw [if_pos rfl]
      refine (pitem_neg hm hl q hN ht _).mono fun e w' h => said_some hlt (hd_length _ _).symm (hd_bytes (by decide)) (by rw [hd_length]; have := hsize_le N; omega) h
    rw [if_neg h2]
    have bby : Bys bb := by
      obtain ⟨_, _, _, hat⟩ := hm.1.at ht
      obtain ⟨-, -, v, -, ⟨_, _, -, hx⟩, -⟩ := hat
      exact hx.1.2.2.2.1
    by_cases h3 : k = 3
    · subst h3
      obtain rfl : N = 0 := by omega
      rw [if_pos rfl]
      refine (pitem_bytes hm hl q ht _).mono fun e w' h => said_some hlt (List.length_append).symm (fun z hz => (List.mem_append.1 hz).elim (hd_bytes (by decide) z) (bby z)) (by rw [List.length_append, hd_length]; have := hsize_le bb.length; omega) h
    rw [if_neg h3]
    by_cases h4 : k = 4
    · subst h4
      obtain rfl : N = 0 := by omega
      rw [if_pos rfl]
      cases hu : utf8 bb with
      | false =>
        rw [if_neg (by decide)]
        exact (pitem_notext hm hl q ht hu _).mono fun e w' h => said_none h
      | true =>
        rw [if_pos rfl]
        refine (pitem_text hm hl q ht hu _).mono fun e w' h => said_some hlt (List.length_append).symm (fun z hz => (List.mem_append.1 hz).elim (hd_bytes (by decide) z) (bby z)) (by rw [List.length_append, hd_length]; have := hsize_le bb.length; omega) h
    rw [if_neg h4]
    obtain rfl := List.eq_nil_of_length_eq_zero (show bb.length = 0 by omega)
    by_cases h56 : k = 5 ∨ k = 6
    · rw [if_pos h56]
      by_cases h64 : (64 : Int) < (N : Int)
      · rw [if_pos h64]
        rcases h56 with rfl | rfl
        · exact (pitem_big5 hm hl q ht (by omega) _ (.inl h64)).mono fun e w' h => said_none h
        · exact (pitem_big6 hm hl q ht (by omega) _ (.inl h64)).mono fun e w' h => said_none h
      rw [if_neg h64]
      rcases hfd with ⟨rfl, rfl⟩ | ⟨d', rfl, rfl⟩
      · have hnone : itemL none ⟨k, (N : Int), []⟩ (l.drop (q + 1)) = none := rfl
        rw [hnone]
        rcases h56 with rfl | rfl
        · exact (pitem_big5 hm hl q ht (by omega) _ (.inr ⟨h64, by decide⟩)).mono fun e w' h => said_none h
        · exact (pitem_big6 hm hl q ht (by omega) _ (.inr ⟨h64, by decide⟩)).mono fun e w' h => said_none h
      · rcases h56 with rfl | rfl
        · exact pitem_list5 hm hl q ht (by omega) _ (by omega) (by omega) d' (ih d' rfl)
        · exact pitem_list6 hm hl q ht (by omega) _ (by omega) (by omega) d' (ih d' rfl)
    · rw [if_neg h56]
      exact (pitem_kind hm hl q ht (by omega) h1 h2 h3 h4 (fun h => h56 (.inl h)) (fun h => h56 (.inr h)) _).mono fun e w' h => said_none h
  · obtain rfl : q = l.length := by omega
    rw [List.drop_length, item_nil]
    exact (pitem_end hl l.length rfl _).mono fun e w' h => said_none h
/-- The page's item, wherever it begins. -/
theorem pitem_is {l : List Tk} (hl : Light l) {a : Option Addr} {cap : Nat} : ∀ d, d ≤ 6 → IHs l a cap d (6 - (d : Int)) := fun d => by
  induction d with
  | zero => exact fun _ => pitem_step hl 0 (by decide) (fun _ h => by cases h)
  | succ d ih => exact fun h => pitem_step hl (d + 1) h (fun d' e => by
      cases e
      have := ih (by omega)
      rwa [show 6 - (d : Int) = 6 - ((d + 1 : Nat) : Int) + 1 by omega] at this)
end Go.Proofs.YtaabcllghniaoabDoor
