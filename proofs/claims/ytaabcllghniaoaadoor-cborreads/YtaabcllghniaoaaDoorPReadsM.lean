/- For every row of bytes the law CborReads answers true, and its arguments read as before: what any bytes are decoded as, or that they are none, is the page's; what is decoded is encoded as it stood. No condition beside the row's own. -/
import Derived.Test.YtaabcllghniaoaaDoorCJ6
import Derived.Test.YtaabcllghniaoaaDoorCF
import Derived.Test.YtaabcllghniaoaaDoorCR
import Derived.Test.YtaabcllghniaoaaDoorCM2
import Derived.Test.YtaabcllghniaoaaDoorCV
import Derived.Test.YtaabcllghniaoaaDoorRU
import Derived.Test.YtaabcllghniaoaaDoorWJ
namespace Go.Proofs.YtaabcllghniaoaaDoor
open Go Go.RowKit
set_option maxRecDepth 100000 in
set_option maxHeartbeats 2000000 in
theorem pitem_big5 {a : Option Addr} {cap : Nat} {l : List Tk} {w : World} (hm : Toks w a cap l) (hl : Light l) (q : Nat) {n : Int} (ht : l[q]? = some ⟨5, n, []⟩) (h0 : ¬ n < 0) (D : Int) (h : 64 < n ∨ ¬ 64 < n ∧ 6 ≤ D) : Calls Tryd.prog 22 #[.slice a l.length cap, .int .i64 q, .int .i64 D] w fun e w' => e = .returned (.agg (wkv 0 (.slice none 0 0) true)) ∧ Below w.heap.size w w' := by
  have hlen : (l.length : Int) ≤ 1000 := by have := hl.1; omega
  have hq := (List.getElem?_eq_some_iff.1 ht).1
  have hq' : (q : Int) < (l.length : Int) := by omega
  have hq0 : (0 : Int) ≤ (q : Int) := by omega
  obtain ⟨b, off, rfl, hat⟩ := hm.1.at ht
  go_enter Tryd.func22, Tryd.ntmps22
  go_upto_region 2 with fail
  have hK := ((Kp.nil w).alloc (wkv 0 (.slice none 0 0) false) 50).alloc (wkv 0 (.slice none 0 0) true) 50
  rw [World.size_alloc] at hK
  rw [show (w.alloc (.cells #[.int .i64 0, .slice none 0 0, .bool false] 50)).alloc (.cells #[.int .i64 0, .slice none 0 0, .bool true] 50) = (w.alloc (.cells (wkv 0 (.slice none 0 0) false) 50)).alloc (.cells (wkv 0 (.slice none 0 0) true) 50) from rfl]
  generalize (w.alloc (.cells (wkv 0 (.slice none 0 0) false) 50)).alloc (.cells (wkv 0 (.slice none 0 0) true) 50) = W at *
  obtain ⟨bR, HbR⟩ : ∃ b, Hid (w.heap.size = b) := ⟨_, rfl⟩
  obtain ⟨bN, HbN⟩ : ∃ b, Hid (bR + 1 = b) := ⟨_, rfl⟩
  rw [HbR.out, HbN.out] at hK ⊢
  obtain ⟨d1, d2, _, d3, ⟨ta, tc, rfl, htw⟩, -⟩ := hat
  have hbl := World.block_lt_of_cell? w _ d1
  have c1 := (hK.2.cell (p := ⟨b, off + q * 3, none⟩) hbl).trans d1
  have c2 := (hK.2.cell (p := ⟨b, off + q * 3 + 1, none⟩) hbl).trans d2
  have c3 := (hK.2.cell (p := ⟨b, off + q * 3 + 2, none⟩) hbl).trans d3
  clear d1 d2 d3
  simp only [List.length_nil] at c3
  go_upto_region 5 with fail
  have hlR := (hK.at bR (wkv 0 (.slice none 0 0) false) 50 (.tail _ (.head _))).lt
  have hlN := (hK.at bN (wkv 0 (.slice none 0 0) true) 50 (.head _)).lt
  have hK := hK.alloc (tkv 5 n (.slice ta 0 tc)) 45
  rw [show W.alloc (.cells #[.int .i64 5, .int .i64 n, .slice ta 0 tc] 45) = W.alloc (.cells (tkv 5 n (.slice ta 0 tc)) 45) from rfl]
  generalize W.alloc (.cells (tkv 5 n (.slice ta 0 tc)) 45) = W1 at *
  have htb : Txt W1 ta tc [] := htw.below hK.2
  obtain ⟨bT, HbT⟩ : ∃ b, Hid (W.heap.size = b) := ⟨_, rfl⟩
  rw [HbT.out] at hK hlR hlN ⊢
  clear c1 c2 c3
  obtain ⟨c1, c2, c3⟩ := own_three (hK.at bT (tkv 5 n (.slice ta 0 tc)) 45 (.head _))
  replace hlR := show Hid _ from hlR
  replace hlN := show Hid _ from hlN
  rcases h with h | ⟨h, h'⟩
  · skip
    go_upto_region 21 with fail
    go_wp2_with (first
      | refine wpList_load_own (by rfl) 50 (.tmp 7) (by rfl) bN (by rfl) (wkv 0 (.slice none 0 0) true) _ (hK.at bN (wkv 0 (.slice none 0 0) true) 50 (.tail _ (.head _))) Tryd.underlying50 (by rfl) (walk_info _ _ _) ?_
      | refine wpList_store_own (op := { dst := none, op := _, type := _, pos := _, after := _, guard := _ }) rfl 50 (.tmp 6) (.tmp 116) rfl bR 0 (wkv 0 (.slice none 0 0) true) (by rfl) (by rfl) (hK.at bR (wkv 0 (.slice none 0 0) false) 50 (.tail _ (.tail _ (.head _)))) (wkv_le _ _ _ _ _ _) (walk_info _ _ _) (wkv_one _ _ _ _ _) (by rfl) ?_)
    refine bodyPost_ret (results_walk Tryd.results22 _ _ bR 0 (.slice none 0 0) true (by rfl) (own_setCells (hK.at bR (wkv 0 (.slice none 0 0) false) 50 (.tail _ (.tail _ (.head _)))) rfl)) rfl ⟨rfl, Below.setCells _ _ _ _ (by rw [HbR.out]; exact Nat.le_refl _) hK.2⟩
  · skip
    go_upto_region 21 with fail
    go_wp2_with (first
      | refine wpList_load_own (by rfl) 50 (.tmp 7) (by rfl) bN (by rfl) (wkv 0 (.slice none 0 0) true) _ (hK.at bN (wkv 0 (.slice none 0 0) true) 50 (.tail _ (.head _))) Tryd.underlying50 (by rfl) (walk_info _ _ _) ?_
      | refine wpList_store_own (op := { dst := none, op := _, type := _, pos := _, after := _, guard := _ }) rfl 50 (.tmp 6) (.tmp 116) rfl bR 0 (wkv 0 (.slice none 0 0) true) (by rfl) (by rfl) (hK.at bR (wkv 0 (.slice none 0 0) false) 50 (.tail _ (.tail _ (.head _)))) (wkv_le _ _ _ _ _ _) (walk_info _ _ _) (wkv_one _ _ _ _ _) (by rfl) ?_)
    refine bodyPost_ret (results_walk Tryd.results22 _ _ bR 0 (.slice none 0 0) true (by rfl) (own_setCells (hK.at bR (wkv 0 (.slice none 0 0) false) 50 (.tail _ (.tail _ (.head _)))) rfl)) rfl ⟨rfl, Below.setCells _ _ _ _ (by rw [HbR.out]; exact Nat.le_refl _) hK.2⟩
set_option maxRecDepth 100000 in
set_option maxHeartbeats 2000000 in
theorem pitem_big6 {a : Option Addr} {cap : Nat} {l : List Tk} {w : World} (hm : Toks w a cap l) (hl : Light l) (q : Nat) {n : Int} (ht : l[q]? = some ⟨6, n, []⟩) (h0 : ¬ n < 0) (D : Int) (h : 64 < n ∨ ¬ 64 < n ∧ 6 ≤ D) : Calls Tryd.prog 22 #[.slice a l.length cap, .int .i64 q, .int .i64 D] w fun e w' => e = .returned (.agg (wkv 0 (.slice none 0 0) true)) ∧ Below w.heap.size w w' := by
  have hlen : (l.length : Int) ≤ 1000 := by have := hl.1; omega
  have hq := (List.getElem?_eq_some_iff.1 ht).1
  have hq' : (q : Int) < (l.length : Int) := by omega
  have hq0 : (0 : Int) ≤ (q : Int) := by omega
  obtain ⟨b, off, rfl, hat⟩ := hm.1.at ht
  go_enter Tryd.func22, Tryd.ntmps22
  go_upto_region 2 with fail
  have hK := ((Kp.nil w).alloc (wkv 0 (.slice none 0 0) false) 50).alloc (wkv 0 (.slice none 0 0) true) 50
  rw [World.size_alloc] at hK
  rw [show (w.alloc (.cells #[.int .i64 0, .slice none 0 0, .bool false] 50)).alloc (.cells #[.int .i64 0, .slice none 0 0, .bool true] 50) = (w.alloc (.cells (wkv 0 (.slice none 0 0) false) 50)).alloc (.cells (wkv 0 (.slice none 0 0) true) 50) from rfl]
  generalize (w.alloc (.cells (wkv 0 (.slice none 0 0) false) 50)).alloc (.cells (wkv 0 (.slice none 0 0) true) 50) = W at *
  obtain ⟨bR, HbR⟩ : ∃ b, Hid (w.heap.size = b) := ⟨_, rfl⟩
  obtain ⟨bN, HbN⟩ : ∃ b, Hid (bR + 1 = b) := ⟨_, rfl⟩
  rw [HbR.out, HbN.out] at hK ⊢
  obtain ⟨d1, d2, _, d3, ⟨ta, tc, rfl, htw⟩, -⟩ := hat
  have hbl := World.block_lt_of_cell? w _ d1
  have c1 := (hK.2.cell (p := ⟨b, off + q * 3, none⟩) hbl).trans d1
  have c2 := (hK.2.cell (p := ⟨b, off + q * 3 + 1, none⟩) hbl).trans d2
  have c3 := (hK.2.cell (p := ⟨b, off + q * 3 + 2, none⟩) hbl).trans d3
  clear d1 d2 d3
  simp only [List.length_nil] at c3
  go_upto_region 5 with fail
  have hlR := (hK.at bR (wkv 0 (.slice none 0 0) false) 50 (.tail _ (.head _))).lt
  have hlN := (hK.at bN (wkv 0 (.slice none 0 0) true) 50 (.head _)).lt
  have hK := hK.alloc (tkv 6 n (.slice ta 0 tc)) 45
  rw [show W.alloc (.cells #[.int .i64 6, .int .i64 n, .slice ta 0 tc] 45) = W.alloc (.cells (tkv 6 n (.slice ta 0 tc)) 45) from rfl]
  generalize W.alloc (.cells (tkv 6 n (.slice ta 0 tc)) 45) = W1 at *
  have htb : Txt W1 ta tc [] := htw.below hK.2
  obtain ⟨bT, HbT⟩ : ∃ b, Hid (W.heap.size = b) := ⟨_, rfl⟩
  rw [HbT.out] at hK hlR hlN ⊢
  clear c1 c2 c3
  obtain ⟨c1, c2, c3⟩ := own_three (hK.at bT (tkv 6 n (.slice ta 0 tc)) 45 (.head _))
  replace hlR := show Hid _ from hlR
  replace hlN := show Hid _ from hlN
  rcases h with h | ⟨h, h'⟩
  · skip
    go_upto_region 21 with fail
    go_wp2_with (first
      | refine wpList_load_own (by rfl) 50 (.tmp 7) (by rfl) bN (by rfl) (wkv 0 (.slice none 0 0) true) _ (hK.at bN (wkv 0 (.slice none 0 0) true) 50 (.tail _ (.head _))) Tryd.underlying50 (by rfl) (walk_info _ _ _) ?_
      | refine wpList_store_own (op := { dst := none, op := _, type := _, pos := _, after := _, guard := _ }) rfl 50 (.tmp 6) (.tmp 116) rfl bR 0 (wkv 0 (.slice none 0 0) true) (by rfl) (by rfl) (hK.at bR (wkv 0 (.slice none 0 0) false) 50 (.tail _ (.tail _ (.head _)))) (wkv_le _ _ _ _ _ _) (walk_info _ _ _) (wkv_one _ _ _ _ _) (by rfl) ?_)
    refine bodyPost_ret (results_walk Tryd.results22 _ _ bR 0 (.slice none 0 0) true (by rfl) (own_setCells (hK.at bR (wkv 0 (.slice none 0 0) false) 50 (.tail _ (.tail _ (.head _)))) rfl)) rfl ⟨rfl, Below.setCells _ _ _ _ (by rw [HbR.out]; exact Nat.le_refl _) hK.2⟩
  · skip
    go_upto_region 21 with fail
    go_wp2_with (first
      | refine wpList_load_own (by rfl) 50 (.tmp 7) (by rfl) bN (by rfl) (wkv 0 (.slice none 0 0) true) _ (hK.at bN (wkv 0 (.slice none 0 0) true) 50 (.tail _ (.head _))) Tryd.underlying50 (by rfl) (walk_info _ _ _) ?_
      | refine wpList_store_own (op := { dst := none, op := _, type := _, pos := _, after := _, guard := _ }) rfl 50 (.tmp 6) (.tmp 116) rfl bR 0 (wkv 0 (.slice none 0 0) true) (by rfl) (by rfl) (hK.at bR (wkv 0 (.slice none 0 0) false) 50 (.tail _ (.tail _ (.head _)))) (wkv_le _ _ _ _ _ _) (walk_info _ _ _) (wkv_one _ _ _ _ _) (by rfl) ?_)
    refine bodyPost_ret (results_walk Tryd.results22 _ _ bR 0 (.slice none 0 0) true (by rfl) (own_setCells (hK.at bR (wkv 0 (.slice none 0 0) false) 50 (.tail _ (.tail _ (.head _)))) rfl)) rfl ⟨rfl, Below.setCells _ _ _ _ (by rw [HbR.out]; exact Nat.le_refl _) hK.2⟩
theorem item_def : ∀ d, ∃ f, item d = itemF f ∧ (d = 0 ∧ f = none ∨ ∃ d', d = d' + 1 ∧ f = some (item d'))
  | 0 => ⟨none, rfl, .inl ⟨rfl, rfl⟩⟩
  | d + 1 => ⟨some (item d), rfl, .inr ⟨d, rfl, rfl⟩⟩
theorem said_none {w w' : World} {n : Nat} {e : Ending} (h : e = .returned (.agg (wkv 0 (.slice none 0 0) true)) ∧ Below w.heap.size w w') : ItemSaid w w' n none e ∧ Below w.heap.size w w' := ⟨.inl ⟨h.1, .inl rfl⟩, h.2⟩
theorem said_some {w w' : World} {l : List Tk} {q N : Nat} {x : List Int} {e : Ending} (hq : q < l.length) (hN : N = x.length) (hb : Bys x) (hx : x.length ≤ 200000) (h : ∃ a' c', e = .returned (.agg (wkv ((q : Int) + 1) (.slice a' N c') false)) ∧ OwnBytes w' w.heap.size (.slice a' N c') x ∧ Below w.heap.size w w') : ItemSaid w w' l.length (some (x, l.drop (q + 1))) e ∧ Below w.heap.size w w' := by
  subst hN
  obtain ⟨a', c', rfl, hO, hB⟩ := h
  refine ⟨.inr ⟨x, l.drop (q + 1), a', c', rfl, by rw [List.length_drop]; omega, ?_, hO, hb, hx⟩, hB⟩
  rw [List.length_drop, show ((l.length : Int) - ((l.length - (q + 1) : Nat) : Int)) = (q : Int) + 1 by omega]
theorem pitem_step {l : List Tk} (hl : Light l) {a : Option Addr} {cap : Nat} (d : Nat) (hd : d ≤ 6) (ih : ∀ d', d = d' + 1 → IHs l a cap d' (6 - (d : Int) + 1)) : IHs l a cap d (6 - (d : Int)) := by
  intro q w hq hm
  rcases Nat.lt_or_ge q l.length with hlt | hge
  · obtain ⟨t, ht⟩ : ∃ t, l[q]? = some t := ⟨l[q], List.getElem?_eq_getElem hlt⟩
    have hdrop : l.drop q = t :: l.drop (q + 1) := by
      rw [List.drop_eq_getElem_cons hlt]
      congr 1
      rw [List.getElem?_eq_getElem hlt] at ht
      exact Option.some.inj ht
    have hwf := hm.1.2.2.2.1 _ (List.mem_of_getElem? ht)
    have hb := hl.2 _ (List.mem_of_getElem? ht)
    obtain ⟨f, hf, hfd⟩ := item_def d
    rw [hdrop, hf, itemF_cons]
    obtain ⟨k, n, bb⟩ := t
    simp only [Tk.wf] at hwf hb
    by_cases hbad : ((k = 3 ∨ k = 4) ∧ n ≠ 0) ∨ (¬ (k = 3 ∨ k = 4) ∧ 0 < bb.length) ∨ n < 0
    · rw [if_pos (show (⟨k, n, bb⟩ : Tk).good = false from decide_eq_false (fun h => by
        have h : ¬ ((k = 3 ∨ k = 4) ∧ n ≠ 0) ∧ ¬ (¬ (k = 3 ∨ k = 4) ∧ 0 < bb.length) ∧ 0 ≤ n ∧ n < 9223372036854775808 ∧ bb.length < 9223372036854775808 := h
        omega))]
      exact (pitem_shape hm hl q ht _ hbad).mono fun e w' h => said_none h
    have hgood : (⟨k, n, bb⟩ : Tk).good = true := decide_eq_true (show ¬ ((k = 3 ∨ k = 4) ∧ n ≠ 0) ∧ ¬ (¬ (k = 3 ∨ k = 4) ∧ 0 < bb.length) ∧ 0 ≤ n ∧ n < 9223372036854775808 ∧ bb.length < 9223372036854775808 from ⟨by omega, by omega, by omega, by omega, by omega⟩)
    rw [if_neg (by rw [hgood]; exact Bool.noConfusion)]
    dsimp only
    obtain ⟨N, rfl⟩ := Int.eq_ofNat_of_zero_le (show 0 ≤ n by omega)
    have hN : N < 9223372036854775808 := by omega
    simp only [Int.toNat_natCast]
    by_cases h1 : k = 1
    · subst h1
      obtain rfl := List.eq_nil_of_length_eq_zero (show bb.length = 0 by omega)
      rw [if_pos rfl]
      refine (pitem_int hm hl q hN ht _).mono fun e w' h => said_some hlt (hd_length _ _).symm (hd_bytes (by decide)) (by rw [hd_length]; have := hsize_le N; omega) h
    rw [if_neg h1]
    by_cases h2 : k = 2
    · subst h2
      obtain rfl := List.eq_nil_of_length_eq_zero (show bb.length = 0 by omega)
      rw [if_pos rfl]
      refine (pitem_neg hm hl q hN ht _).mono fun e w' h => said_some hlt (hd_length _ _).symm (hd_bytes (by decide)) (by rw [hd_length]; have := hsize_le N; omega) h
    rw [if_neg h2]
    have bby : Bys bb := by
      obtain ⟨_, _, _, hat⟩ := hm.1.at ht
      obtain ⟨-, -, v, -, ⟨_, _, -, hx⟩, -⟩ := hat
      exact hx.1.2.2.2.1
    by_cases h3 : k = 3
    · subst h3
      obtain rfl : N = 0 := by omega
      rw [if_pos rfl]
      refine (pitem_bytes hm hl q ht _).mono fun e w' h => said_some hlt (List.length_append).symm (fun z hz => (List.mem_append.1 hz).elim (hd_bytes (by decide) z) (bby z)) (by rw [List.length_append, hd_length]; have := hsize_le bb.length; omega) h
    rw [if_neg h3]
    by_cases h4 : k = 4
    · subst h4
      obtain rfl : N = 0 := by omega
      rw [if_pos rfl]
      cases hu : utf8 bb with
      | false =>
        rw [if_neg (by decide)]
        exact (pitem_notext hm hl q ht hu _).mono fun e w' h => said_none h
      | true =>
        rw [if_pos rfl]
        refine (pitem_text hm hl q ht hu _).mono fun e w' h => said_some hlt (List.length_append).symm (fun z hz => (List.mem_append.1 hz).elim (hd_bytes (by decide) z) (bby z)) (by rw [List.length_append, hd_length]; have := hsize_le bb.length; omega) h
    rw [if_neg h4]
    obtain rfl := List.eq_nil_of_length_eq_zero (show bb.length = 0 by omega)
    by_cases h56 : k = 5 ∨ k = 6
    · rw [if_pos h56]
      by_cases h64 : (64 : Int) < (N : Int)
      · rw [if_pos h64]
        rcases h56 with rfl | rfl
        · exact (pitem_big5 hm hl q ht (by omega) _ (.inl h64)).mono fun e w' h => said_none h
        · exact (pitem_big6 hm hl q ht (by omega) _ (.inl h64)).mono fun e w' h => said_none h
      rw [if_neg h64]
      rcases hfd with ⟨rfl, rfl⟩ | ⟨d', rfl, rfl⟩
      · have hnone : itemL none ⟨k, (N : Int), []⟩ (l.drop (q + 1)) = none := rfl
        rw [hnone]
        rcases h56 with rfl | rfl
        · exact (pitem_big5 hm hl q ht (by omega) _ (.inr ⟨h64, by decide⟩)).mono fun e w' h => said_none h
        · exact (pitem_big6 hm hl q ht (by omega) _ (.inr ⟨h64, by decide⟩)).mono fun e w' h => said_none h
      · rcases h56 with rfl | rfl
        · exact pitem_list5 hm hl q ht (by omega) _ (by omega) (by omega) d' (ih d' rfl)
        · exact pitem_list6 hm hl q ht (by omega) _ (by omega) (by omega) d' (ih d' rfl)
    · rw [if_neg h56]
      exact (pitem_kind hm hl q ht (by omega) h1 h2 h3 h4 (fun h => h56 (.inl h)) (fun h => h56 (.inr h)) _).mono fun e w' h => said_none h
  · obtain rfl : q = l.length := by omega
    rw [List.drop_length, item_nil]
    exact (pitem_end hl l.length rfl _).mono fun e w' h => said_none h
/-- The page's item, wherever it begins. -/
theorem pitem_is {l : List Tk} (hl : Light l) {a : Option Addr} {cap : Nat} : ∀ d, d ≤ 6 → IHs l a cap d (6 - (d : Int)) := fun d => by
  induction d with
  | zero => exact fun _ => pitem_step hl 0 (by decide) (fun _ h => by cases h)
  | succ d ih => exact fun h => pitem_step hl (d + 1) h (fun d' e => by
      cases e
      have := ih (by omega)
      rwa [show 6 - (d : Int) = 6 - ((d + 1 : Nat) : Int) + 1 by omega] at this)
end Go.Proofs.YtaabcllghniaoaaDoor

namespace Go.Proofs.YtaabcllghniaoaaDoor
open Go Go.RowKit
/-- What an Encode tells: a row's bytes, or that there are none. -/
def EncSaid (w w' : World) (o : Option (List Int)) (e : Ending) : Prop :=
  (o = none ∧ e = .returned (.tuple #[.slice none 0 0, .bool false])) ∨
  ∃ x a c, o = some x ∧ e = .returned (.tuple #[.slice a x.length c, .bool true]) ∧ OwnBytes w' w.heap.size (.slice a x.length c) x ∧ Bys x
theorem enc_none_of {l : List Tk} (h : item 6 l = none ∨ ∃ x r, item 6 l = some (x, r) ∧ (32768 < x.length ∨ r ≠ [])) : enc l = none := by
  unfold enc
  by_cases h1 : 600 < l.length
  · rw [if_pos h1]
  rw [if_neg h1]
  rcases h with h | ⟨x, r, h, hx⟩
  · rw [h]
  · rw [h]
    cases r with
    | nil =>
      simp only
      rw [if_pos (hx.resolve_right (fun h => h rfl))]
    | cons a b => rfl
set_option maxRecDepth 100000 in
set_option maxHeartbeats 2000000 in
theorem pencode_is {a : Option Addr} {cap : Nat} {l : List Tk} {w : World} (hm : Toks w a cap l) (hl : Light l) : Calls Tryd.prog 11 #[.slice a l.length cap] w fun e w' => EncSaid w w' (enc l) e ∧ Below w.heap.size w w' := by
  have hlen : (l.length : Int) ≤ 1000 := by have := hl.1; omega
  obtain ⟨o, Ho⟩ : ∃ o, Hid (enc l = o) := ⟨_, rfl⟩
  rw [Ho.out]
  by_cases h6 : 600 < l.length
  · have h6' : (600 : Int) < (l.length : Int) := by omega
    have hn : Hid (o = none) := by show _ = _; rw [← Ho.out]; unfold enc; rw [if_pos h6]
    go_enter Tryd.func11, Tryd.ntmps11
    go_wp2_with fail
    exact bodyPost_ret (results_tmp2 Tryd.results11 _ _ _) rfl ⟨.inl ⟨hn.out, rfl⟩, Below.refl _ _⟩
  have h6' : ¬ (600 : Int) < (l.length : Int) := by omega
  have IH : Hid (Calls Tryd.prog 22 #[.slice a l.length cap, .int .i64 0, .int .i64 0] w fun e w' => ItemSaid w w' l.length (item 6 (l.drop 0)) e ∧ Below w.heap.size w w') := pitem_is hl (a := a) (cap := cap) 6 (by decide) 0 w (Nat.zero_le _) hm
  go_enter Tryd.func11, Tryd.ntmps11
  go_wp2_with fail
  refine Calls.mono (Hid.out IH) ?_
  rintro e w1 ⟨hS, hb1⟩
  rw [List.drop_zero] at hS
  rcases hS with ⟨rfl, hbad⟩ | ⟨x, r, ax, cx, hx, hr', rfl, hOx, hBx, hx200⟩
  · have hn : Hid (o = none) := by
      show _ = _
      rw [← Ho.out]
      exact enc_none_of (hbad.imp id fun ⟨x, r, h, hx⟩ => ⟨x, r, h, .inl hx⟩)
    clear hbad
    simp only [wkv]
    go_wp2_with fail
    refine bodyPost_ret (results_tmp2 Tryd.results11 _ _ _) rfl ⟨.inl ⟨hn.out, rfl⟩, ?_⟩
    exact hb1.alloc hb1.size _
  · have hrl : (r.length : Int) ≤ (l.length : Int) := by omega
    have hr0 : (0 : Int) ≤ (r.length : Int) := by omega
    have hx0 : (x.length : Int) ≤ 200000 := by omega
    have hx := show Hid _ from hx
    have hBx := show Hid _ from hBx
    obtain ⟨n, Hn⟩ : ∃ n : Int, Hid ((l.length : Int) - (r.length : Int) = n) := ⟨_, rfl⟩
    rw [Hn.out]
    simp only [wkv]
    by_cases hr : r = []
    · have hne : Hid (n = (l.length : Int)) := by show _ = _; rw [← Hn.out, hr]; simp
      have e1 : (n == (l.length : Int)) = true := beq_iff_eq.2 hne.out
      have e2 : (n != (l.length : Int)) = false := by rw [bne, e1]; rfl
      by_cases hlong : 32768 < x.length
      · have hlong' : (32768 : Int) < (x.length : Int) := by omega
        have hn : Hid (o = none) := by
          show _ = _
          rw [← Ho.out]
          exact enc_none_of (.inr ⟨x, r, hx.out, .inl hlong⟩)
        go_wp2_with fail
        refine bodyPost_ret (results_tmp2 Tryd.results11 _ _ _) rfl ⟨.inl ⟨hn.out, rfl⟩, ?_⟩
        exact hb1.alloc hb1.size _
      · have hlong' : ¬ (32768 : Int) < (x.length : Int) := by omega
        have hn : Hid (o = some x) := by
          show _ = _
          rw [← Ho.out]
          exact enc_of (by omega) (by rw [hx.out, hr]) (by omega)
        go_wp2_with fail
        refine bodyPost_ret (results_tmp2 Tryd.results11 _ _ _) rfl ⟨.inr ⟨x, ax, cx, hn.out, rfl, hOx.below (alloc_below _ _), hBx.out⟩, ?_⟩
        exact hb1.alloc hb1.size _
    · have hrp : 0 < r.length := by
        cases r with
        | nil => exact absurd rfl hr
        | cons a b => simp
      have e1 : (n == (l.length : Int)) = false := beq_eq_false_iff_ne.2 (by rw [← Hn.out]; omega)
      have e2 : (n != (l.length : Int)) = true := by rw [bne, e1]; rfl
      have hn : Hid (o = none) := by
        show _ = _
        rw [← Ho.out]
        exact enc_none_of (.inr ⟨x, r, hx.out, .inr hr⟩)
      clear hr
      go_wp2_with fail
      refine bodyPost_ret (results_tmp2 Tryd.results11 _ _ _) rfl ⟨.inl ⟨hn.out, rfl⟩, ?_⟩
      exact hb1.alloc hb1.size _
end Go.Proofs.YtaabcllghniaoaaDoor

namespace Go.Proofs.YtaabcllghniaoaaDoor
open Go Go.RowKit
theorem ptok_is {w0 : World} {a : Option Addr} {cap : Nat} {m : List Int} (hm : Txt w0 a cap m) (hl : m.length ≤ 100000) : ∀ d, d ≤ 6 → IHt w0 a cap m d (6 - (d : Int)) := fun d => by
  induction d with
  | zero => exact fun _ => ptok_step hm hl 0 (by decide) _ rfl (fun _ h => by cases h)
  | succ d ih => exact fun h => ptok_step hm hl (d + 1) h _ rfl (fun d' e => by
      cases e
      have := ih (by omega)
      rwa [show 6 - (d : Int) = 6 - ((d + 1 : Nat) : Int) + 1 by omega] at this)
/-- What a Decode tells: the tokens, or that there are none. -/
def DecSaid (w w' : World) (o : Option (List Tk)) (e : Ending) : Prop :=
  (o = none ∧ e = .returned (.tuple #[.slice none 0 0, .bool false])) ∨
  ∃ l a c, o = some l ∧ e = .returned (.tuple #[.slice a l.length c, .bool true]) ∧ OwnToks w' w.heap.size (.slice a l.length c) l
set_option maxRecDepth 100000 in
set_option maxHeartbeats 2000000 in
theorem pdecode_is {a : Option Addr} {cap : Nat} {m : List Int} {w : World} (hm : Txt w a cap m) : Calls Tryd.prog 19 #[.slice a m.length cap] w fun e w' => DecSaid w w' (dec m) e ∧ Below w.heap.size w w' := by
  have hlm : (m.length : Int) ≤ 9223372036854775807 := by have h3 := Nat.le_trans hm.1.2.1 hm.1.2.2.1; unfold maxLen at h3; omega
  obtain ⟨O, HO⟩ : ∃ O, Hid (dec m = O) := ⟨_, rfl⟩
  rw [HO.out]
  by_cases hlong : 32768 < m.length
  · have hlong' : (32768 : Int) < (m.length : Int) := by omega
    have hr : Hid (O = none) := by show _ = _; rw [← HO.out]; exact dec_long hlong
    go_enter Tryd.func19, Tryd.ntmps19
    go_wp2_with fail
    exact bodyPost_ret (results_tmp2 Tryd.results19 _ _ _) rfl ⟨.inl ⟨hr.out, rfl⟩, Below.refl _ _⟩
  have hlong' : ¬ (32768 : Int) < (m.length : Int) := by omega
  clear hlm
  have IH : Hid (Calls Tryd.prog 25 #[.slice a m.length cap, .int .i64 0, .slice none 0 0, .int .i64 0] w fun e w' => TokSaid w w' m [] (toks 6 (m.drop 0)) e ∧ Below w.heap.size w w') := ptok_is hm (by omega) 6 (by decide) 0 w none 0 [] (Nat.zero_le _) (by decide) (Below.refl _ _) (ownToks_nil _ _)
  go_enter Tryd.func19, Tryd.ntmps19
  go_wp2_with fail
  refine Calls.mono (Hid.out IH) ?_
  rintro e w1 ⟨hS, hB1⟩
  rw [List.drop_zero] at hS
  rcases hS with ⟨rfl, hbad⟩ | ⟨ts, q, a1, c1, hts, hq, hlen, rfl, hO1⟩
  · have hr : Hid (O = none) := by
      show _ = _
      rw [← HO.out]
      refine dec_none_of (hbad.imp id fun ⟨ts, r, h, hx⟩ => ⟨ts, r, h, .inl ?_⟩)
      simpa using hx
    clear hbad
    go_wp2_with fail
    exact bodyPost_ret (results_tmp2 Tryd.results19 _ _ _) rfl ⟨.inl ⟨hr.out, rfl⟩, hB1⟩
  · rw [List.nil_append] at hO1
    rw [show ([] : List Tk).length + ts.length = ts.length by simp] at hlen hO1 ⊢
    have hts := show Hid _ from hts
    have hO1 : Hid (OwnToks w1 w.heap.size (.slice a1 ts.length c1) ts) := hO1
    have hq0 : (0 : Int) ≤ (q : Int) := by omega
    by_cases hqe : q = m.length
    · have e1 : ((q : Int) == (m.length : Int)) = true := beq_iff_eq.2 (by omega)
      have e2 : ((q : Int) != (m.length : Int)) = false := by rw [bne, e1]; rfl
      have hts2 : Hid (toks 6 m = some (ts, [])) := by show _ = _; rw [hts.out, hqe, List.drop_length]
      have hlt : Light ts := ⟨by omega, fun t ht => by have := (toks_light 6 hts.out).1 t ht; omega⟩
      obtain ⟨ax, cx, ex, hT1⟩ := hO1.out.form
      simp only [Value.slice.injEq] at ex
      obtain ⟨rfl, -, rfl⟩ := ex
      have hencc := show Hid _ from pencode_is hT1 hlt
      have hts60 : (ts.length : Int) ≤ 600 := by omega
      clear hqe
      go_wp2_with fail
      refine Calls.mono (Hid.out hencc) ?_
      rintro e w2 ⟨hE, hb2⟩
      have hB2 := hB1.trans (hb2.mono hB1.size)
      rcases hE with ⟨hn, rfl⟩ | ⟨x, ax2, cx2, hx, rfl, hOx, hBx⟩
      · have hr : Hid (O = none) := by
          show _ = _
          rw [← HO.out]
          exact dec_none_of (.inr ⟨ts, [], hts2.out, .inr (.inr (by rw [hn]; exact fun h => by cases h))⟩)
        clear hn
        go_wp2_with fail
        exact bodyPost_ret (results_tmp2 Tryd.results19 _ _ _) rfl ⟨.inl ⟨hr.out, rfl⟩, hB2⟩
      · have hx := show Hid _ from hx
        have hcmp := show Hid _ from bytes_tx (txt_same hOx hBx).2 (hm.below hB2)
        go_wp2_with fail
        refine Calls.mono (Hid.out hcmp) ?_
        rintro e w3 ⟨rfl, hb3⟩
        have hB3 := hB2.trans (hb3.mono hB2.size)
        by_cases hxm : x = m
        · have hr : Hid (O = some ts) := by
            show _ = _
            rw [← HO.out]
            exact dec_of (by rw [← hxm]; exact hx.out)
          rw [decide_eq_true hxm]
          clear hxm
          go_wp2_with fail
          exact bodyPost_ret (results_tmp2 Tryd.results19 _ _ _) rfl ⟨.inr ⟨ts, a1, c1, hr.out, rfl, (hO1.out.below hb2).below hb3⟩, hB3⟩
        · have hr : Hid (O = none) := by
            show _ = _
            rw [← HO.out]
            exact dec_none_of (.inr ⟨ts, [], hts2.out, .inr (.inr (by rw [hx.out]; exact fun h => hxm (Option.some.inj h)))⟩)
          rw [decide_eq_false hxm]
          clear hxm
          go_wp2_with fail
          exact bodyPost_ret (results_tmp2 Tryd.results19 _ _ _) rfl ⟨.inl ⟨hr.out, rfl⟩, hB3⟩
    · have e1 : ((q : Int) == (m.length : Int)) = false := beq_eq_false_iff_ne.2 (by omega)
      have e2 : ((q : Int) != (m.length : Int)) = true := by rw [bne, e1]; rfl
      have hr : Hid (O = none) := by
        show _ = _
        rw [← HO.out]
        refine dec_none_of (.inr ⟨ts, m.drop q, hts.out, .inr (.inl fun h => ?_)⟩)
        have := congrArg List.length h
        rw [List.length_drop, List.length_nil] at this
        omega
      clear hqe
      go_wp2_with fail
      exact bodyPost_ret (results_tmp2 Tryd.results19 _ _ _) rfl ⟨.inl ⟨hr.out, rfl⟩, hB1⟩
end Go.Proofs.YtaabcllghniaoaaDoor

namespace Go.Proofs.YtaabcllghniaoaaDoor
open Go Go.RowKit
set_option maxRecDepth 100000 in
set_option maxHeartbeats 2000000 in
theorem creads_is {T : World → Prop} (F : Cbor T) {a : Option Addr} {cap : Nat} {m : List Int} {w : World} (hT : T w) (hm : Txt w a cap m) : Calls Tryd.prog 4 #[.slice a m.length cap] w fun e w' => e = .returned (.bool true) ∧ Below w.heap.size w w' := by
  have hlm : (m.length : Int) ≤ 9223372036854775807 := by have h3 := Nat.le_trans hm.1.2.1 hm.1.2.2.1; unfold maxLen at h3; omega
  have hwk := show Hid _ from cwakes F
  by_cases hlong : 3000 < m.length
  · have hlong' : (3000 : Int) < (m.length : Int) := by omega
    go_enter Tryd.func4, Tryd.ntmps4
    go_wp2_with fail
    go_ret
    exact ⟨rfl, Below.refl _ _⟩
  have hlong' : ¬ (3000 : Int) < (m.length : Int) := by omega
  clear hlm
  go_enter Tryd.func4, Tryd.ntmps4
  go_wp2_with fail
  refine (twin_is hm (by omega)).mono ?_
  rintro e w1 ⟨a1, c1, rfl, hO1, hX1, hb1⟩
  have hD := show Hid _ from F.decode a1 c1 m (by omega) w1 (F.keep _ _ hT hb1) hX1
  go_wp2_with fail
  refine Calls.mono (Hid.out hD) ?_
  rintro e w2 ⟨hS, hb2⟩
  have hB2 := hb1.trans (hb2.mono hb1.size)
  have hX2 := hX1.below hb2
  have hm2 := hm.below hB2
  clear hD
  rcases hS with ⟨hn, a2, c2, rfl, hT2⟩ | ⟨k, a2, c2, hk, rfl, hT2⟩
  · have hn := show Hid _ from hn
    go_wp2_with fail
    refine (pdecode_is hm2).mono ?_
    rintro e w3 ⟨hS, hb3⟩
    rcases hS with ⟨-, rfl⟩ | ⟨k, a3, c3, hk, -⟩
    · have hB3 := hB2.trans (hb3.mono hB2.size)
      go_wp2_with fail
      refine (toks_cmp (l := []) (m := []) (hT2.below hb3) (toks_none _ _)).mono ?_
      rintro e w4 ⟨rfl, hb4⟩
      rw [decide_eq_true rfl]
      have hB4 := hB3.trans (hb4.mono hB3.size)
      go_wp2_with fail
      refine (bytes_tx ((hX2.below hb3).below hb4) ((hm2.below hb3).below hb4)).mono ?_
      rintro e w5 ⟨rfl, hb5⟩
      rw [decide_eq_true rfl]
      have hB5 := hB4.trans (hb5.mono hB4.size)
      go_wp2_with fail
      refine (hwk.out w5 (F.keep _ _ hT hB5)).mono ?_
      rintro e w6 ⟨rfl, hb6⟩
      go_wp2_with fail
      go_ret
      exact ⟨rfl, hB5.trans (hb6.mono hB5.size)⟩
    · rw [hn.out] at hk; cases hk
  · have hlk : Hid (Light k) := dec_light hk
    have hk := show Hid _ from hk
    go_wp2_with fail
    refine (pdecode_is hm2).mono ?_
    rintro e w3 ⟨hS, hb3⟩
    rcases hS with ⟨hn, -⟩ | ⟨k', a3, c3, hk', rfl, hO3⟩
    · rw [hk.out] at hn; cases hn
    obtain rfl : k' = k := Option.some.inj (hk'.symm.trans hk.out)
    clear hk'
    have hB3 := hB2.trans (hb3.mono hB2.size)
    obtain ⟨x3, y3, e3, hT3⟩ := hO3.form
    simp only [Value.slice.injEq] at e3
    obtain ⟨rfl, -, rfl⟩ := e3
    go_wp2_with fail
    refine (toks_cmp (hT2.below hb3) hT3).mono ?_
    rintro e w4 ⟨rfl, hb4⟩
    rw [decide_eq_true rfl]
    have hB4 := hB3.trans (hb4.mono hB3.size)
    go_wp2_with fail
    refine (bytes_tx ((hX2.below hb3).below hb4) ((hm2.below hb3).below hb4)).mono ?_
    rintro e w5 ⟨rfl, hb5⟩
    rw [decide_eq_true rfl]
    have hB5 := hB4.trans (hb5.mono hB4.size)
    have hE := show Hid _ from F.encode a2 c2 k' hlk.out w5 (F.keep _ _ hT hB5) (((hT2.below hb3).below hb4).below hb5)
    go_wp2_with fail
    refine Calls.mono (Hid.out hE) ?_
    rintro e w6 ⟨⟨hn, -⟩ | ⟨x, a6, c6, hx, rfl, hO6, hBx⟩, hb6⟩
    · rw [dec_iff.1 hk.out] at hn; cases hn
    obtain rfl : x = m := Option.some.inj (hx.symm.trans (dec_iff.1 hk.out))
    have hX6 := (txt_same hO6 hBx).2
    clear hx hE
    have hB6 := hB5.trans (hb6.mono hB5.size)
    go_wp2_with fail
    refine (bytes_tx hX6 (hm.below hB6)).mono ?_
    rintro e w7 ⟨rfl, hb7⟩
    rw [decide_eq_true rfl]
    have hB7 := hB6.trans (hb7.mono hB6.size)
    go_wp2_with fail
    refine (hwk.out w7 (F.keep _ _ hT hB7)).mono ?_
    rintro e w8 ⟨rfl, hb8⟩
    go_wp2_with fail
    go_ret
    exact ⟨rfl, hB7.trans (hb8.mono hB7.size)⟩
end Go.Proofs.YtaabcllghniaoaaDoor

namespace Go.Proofs.YtaabcllghniaoaaDoor
open Go Go.RowKit
theorem creads_row {a : Option Addr} {len cap : Nat} {zs : List Int} {w : World} (h : IsRow .u8 w a len cap zs) (hT : TU w) : Calls Tryd.prog 4 #[.slice a len cap] w fun e w' => e = .returned (.bool true) ∧ Below w.heap.size w w' := by
  obtain ⟨e, ht⟩ := txt_of_row h
  have := creads_is wcbor hT ht
  rw [← e] at this
  exact this
end Go.Proofs.YtaabcllghniaoaaDoor

namespace Go.Proofs.YtaabcllghniaoaaDoor
namespace cborReads
open Go.ChangeShapes Go.WideShapes Go.ChangeAt Go.RowKit
/-- The cells of a block, laid anew. -/
def relay (A : Array Value) : Obj → Obj
  | .cells _ t frozen => .cells A t frozen
  | o => o
/-- A world for the witness: the settled one, the listed variables holding what their initialisers lay. -/
noncomputable def laidWorld (os : Os) : World :=
  { World.holding Tryd.prog os ⟨#[], #[], []⟩ with heap := ((World.holding Tryd.prog os ⟨#[], #[], []⟩).heap.modify 0 (relay (fstL.map (Value.int .u8)).toArray)).modify 1 (relay ((List.range 16).flatMap fun k => [Value.int .u8 (ulo k : Int), Value.int .u8 (uhi k : Int)]).toArray) }

set_option maxRecDepth 100000 in
theorem contract (H : Type) (enc : TypeId × Value → H) (W : World) (base : Nat) (args : Array Value) (ds gs : List (DataW H)) (before : List MemPlace)
    (hval : ∀ (j : Nat) t v, Tryd.f4.params[j]? = some t → args[j]? = some v → Value.okWide Tryd.prog W .any base t v)
    (hW : DataW.Whole enc Tryd.prog Tryd.f4.params.toList Rows.cborReadsSpec.vars false W args.toList ds gs before) (hL : laidMetH Tryd.prog Rows.cborReadsRow.laid W) :
    Calls Tryd.prog 4 args W fun e W' => ∃ v, e = .returned v ∧ Rows.cborReadsSpec.post enc Tryd.prog Tryd.f4 false true false false W args v W' := by
  have hW' := hW
  obtain ⟨p, q, hA0, hV, rfl, hfz, hnd⟩ := hW
  have hA : DataW.TrodAll enc Tryd.prog W 0 (fun _ => true) true Tryd.f4.params.toList args.toList ds p := hA0
  rw [Tryd.params4] at hA hval
  obtain ⟨v0, vs0, d0, ds0, p0, q0, hargs, rfl, rfl, h0, r0⟩ := trodAll_cons hA
  obtain ⟨rfl, rfl, rfl⟩ := trodAll_nil r0
  obtain rfl : args = #[v0] := by cases args; simp_all
  obtain ⟨rfl, rfl⟩ := trodVars_none hV
  obtain ⟨a0, len0, cap0, rfl⟩ := okWide_slice Tryd.underlying25 (hval 0 25 v0 rfl rfl)
  have k0 := h0
  have lt0 : ∀ x ∈ p0, x.block < W.heap.size := by obtain ⟨m, hm⟩ := k0; exact DataW.trod_lt m _ _ _ hm
  obtain ⟨z0, w0⟩ := isRow_of h0
  clear hA0
  refine (creads_row w0 (tu_of hL)).mono fun e W' ⟨he, bel⟩ => ?_
  subst he
  exact ⟨_, rfl, _, _, _, [], _, [], hW', trodAll_mk1 (shut_bool Tryd.underlying4 _), (trodAll_cons_mk (Below.trod laidOut (by kernel_rfl) (of_decide_eq_true (by kernel_rfl)) k0 bel lt0) trodAll_mk0), rfl, bel.frame _, fun h => by cases h⟩

set_option maxRecDepth 100000 in
theorem laid_met (os : Os) : laidMet Tryd.prog Rows.cborReadsRow.laid ((laidWorld os).forCall (fun _ _ => 0) ⟨#[], #[.slice none 0 0], []⟩).memory :=
  laidMet_of_run' 8 (by kernel_rfl) (by kernel_rfl)
set_option maxRecDepth 100000 in
theorem reads (os : Os) {H : Type} (enc : TypeId × Value → H) : ∃ places, DataW.whole enc Tryd.prog ((laidWorld os).forCall (fun _ _ => 0) ⟨#[], #[.slice none 0 0], []⟩).memory Tryd.f4.params.toList Rows.cborReadsSpec.vars false #[Value.slice none 0 0].toList 8 = some ([.nil], [], places) :=
  ⟨[], by kernel_rfl⟩

set_option maxRecDepth 100000 in
theorem lifted (os : Os) (started : os.Started) (H : Type) (enc : TypeId × Value → H) (F : Stop.Interp) :
    ReturnsInHanded {} Tryd.checked os 4 .any ((OpenSpec.ofChange Rows.cborReadsSpec).preRow enc Tryd.prog Tryd.f4 Rows.cborReadsRow.domain false Rows.cborReadsRow.laid) (((OpenSpec.ofChange Rows.cborReadsSpec).at F).post enc Tryd.prog Tryd.f4 false true false false) := by
  obtain ⟨places, hx⟩ := reads os enc
  refine returnsInHanded_of_row (C := Tryd.checked) (s := OpenSpec.ofChange Rows.cborReadsSpec) own started (by kernel_rfl) Tryd.func4
    (witness_row_at (enc := enc) (C := Tryd.checked) false (laidWorld os) #[.slice none 0 0] rfl (by kernel_rfl) (by kernel_rfl) (by kernel_rfl)
      (OpenSpec.preRow_of_cond 8 hx (by kernel_rfl) (fun k hk => by cases hk) (by kernel_rfl) (laid_met os))) ?_
  intro W base args ds gs before hval hW _ _ _ hL _ _
  exact contract H enc W base args ds gs before hval hW hL

theorem said : Rows.CborReadsSaid :=
  OpenClaim.holds_of_cond 4 Tryd.f4 rfl rfl rfl rfl rfl rfl rfl ⟨rfl, rfl, rfl, rfl, rfl⟩ rfl rfl rfl rfl rfl (by kernel_rfl) Tryd.func4 (by kernel_rfl)
    (of_decide_eq_true (by kernel_rfl)) (by unfold Func.isWrapper; first | (rw [if_pos (by decide +kernel)]; kernel_rfl) | (rw [if_neg (by decide +kernel)]; exact ⟨rfl, rfl⟩))
    (fun os started H enc _ F => by rw [OpenClaim.pre_eq_preRow]; exact lifted os started H enc F)

theorem plain (f : FuncId) (fn : Func) (hf : Tryd.pinned.checked.prog.funcNamed "codicil/codicillaw10.CborReads" = some f) (hfn : Tryd.pinned.checked.prog.funcs[f]? = some fn) :
    false = Tryd.pinned.checked.prog.looks [] ∧ ∀ (j : Nat) t, fn.params[j]? = some t → Tryd.pinned.checked.prog.wantsStandIn t = false := by
  obtain rfl : f = 4 := Option.some.inj ((show Tryd.prog.funcNamed "codicil/codicillaw10.CborReads" = some 4 by kernel_rfl).symm.trans hf) |>.symm
  obtain rfl : fn = Tryd.f4 := (Option.some.inj (Tryd.func4.symm.trans hfn)).symm
  refine ⟨by kernel_rfl, fun j t ht => ?_⟩
  rw [Tryd.params4] at ht
  have : t = 25 := by simpa using Array.mem_of_getElem? ht
  subst this
  exact (show Tryd.prog.wantsStandIn 25 = false by kernel_rfl)

end cborReads
open cborReads in
/-- The card. -/
theorem cborReads_card : Rows.CborReadsCardSaid :=
  Claim7.holds_tied_plain_at .later [] _ _ _ _ said (fun _ h => by cases h) (by kernel_rfl) (fun _ h => by cases h) cborReads_row_tie rfl ⟨rfl, rfl⟩ (by kernel_rfl) rfl plain (by kernel_rfl)
#print axioms cborReads_card
end Go.Proofs.YtaabcllghniaoaaDoor
