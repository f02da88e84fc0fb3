/- The page's maps. -/
import Derived.Test.YtaabcllghniaoabDoorCJ5
namespace Go.Proofs.YtaabcllghniaoabDoor
open Go Go.RowKit
set_option maxRecDepth 100000 in
set_option maxHeartbeats 4000000 in
theorem pitem_list6 {a : Option Addr} {cap : Nat} {l : List Tk} {w : World} (hm : Toks w a cap l) (hl : Light l) (q : Nat) {n : Nat} (ht : l[q]? = some ⟨6, n, []⟩) (hn : n ≤ 64) (D : Int) (hD0 : 0 ≤ D) (hD : D < 6) (d : Nat) (IH : IHs l a cap d (D + 1)) : Calls Tryd.prog 23 #[.slice a l.length cap, .int .i64 q, .int .i64 D] w fun e w' => ItemSaid w w' l.length (itemL (some (item d)) ⟨6, n, []⟩ (l.drop (q + 1))) e ∧ Below w.heap.size w w' := by
  have hlen : (l.length : Int) ≤ 1000 := by have := hl.1; omega
  have hq := (List.getElem?_eq_some_iff.1 ht).1
  have hq' : (q : Int) < (l.length : Int) := by omega
  have hq0 : (0 : Int) ≤ (q : Int) := by omega
  obtain ⟨b, off, rfl, hat⟩ := hm.1.at ht
  have IH := show Hid _ from IH
  have hn0 : ¬ (n : Int) < 0 := by omega
  have hn64 : ¬ (64 : Int) < (n : Int) := by omega
  have hD6 : ¬ (6 : Int) ≤ D := by omega
  obtain ⟨I, HI⟩ : ∃ I, Hid (itemL (some (item d)) ⟨6, n, []⟩ (l.drop (q + 1)) = I) := ⟨_, rfl⟩
  rw [HI.out]
  go_enter Tryd.func23, Tryd.ntmps23
  go_upto_region 2 with fail
  have hK := ((Kp.nil w).alloc (wkv 0 (.slice none 0 0) false) 53).alloc (wkv 0 (.slice none 0 0) true) 53
  rw [World.size_alloc] at hK
  rw [show (w.alloc (.cells #[.int .i64 0, .slice none 0 0, .bool false] 53)).alloc (.cells #[.int .i64 0, .slice none 0 0, .bool true] 53) = (w.alloc (.cells (wkv 0 (.slice none 0 0) false) 53)).alloc (.cells (wkv 0 (.slice none 0 0) true) 53) from rfl]
  generalize (w.alloc (.cells (wkv 0 (.slice none 0 0) false) 53)).alloc (.cells (wkv 0 (.slice none 0 0) true) 53) = W at *
  obtain ⟨bR, HbR⟩ : ∃ b, Hid (w.heap.size = b) := ⟨_, rfl⟩
  obtain ⟨bN, HbN⟩ : ∃ b, Hid (bR + 1 = b) := ⟨_, rfl⟩
  rw [HbR.out, HbN.out] at hK ⊢
  obtain ⟨d1, d2, _, d3, ⟨ta, tc, rfl, htw⟩, -⟩ := hat
  have hbl := World.block_lt_of_cell? w _ d1
  have c1 := (hK.2.cell (p := ⟨b, off + q * 3, none⟩) hbl).trans d1
  have c2 := (hK.2.cell (p := ⟨b, off + q * 3 + 1, none⟩) hbl).trans d2
  have c3 := (hK.2.cell (p := ⟨b, off + q * 3 + 2, none⟩) hbl).trans d3
  clear d1 d2 d3
  simp only [List.length_nil] at c3
  go_upto_region 5 with fail
  have hlR := (hK.at bR (wkv 0 (.slice none 0 0) false) 53 (.tail _ (.head _))).lt
  have hlN := (hK.at bN (wkv 0 (.slice none 0 0) true) 53 (.head _)).lt
  have hK := hK.alloc (tkv 6 n (.slice ta 0 tc)) 30
  rw [show W.alloc (.cells #[.int .i64 6, .int .i64 n, .slice ta 0 tc] 30) = W.alloc (.cells (tkv 6 n (.slice ta 0 tc)) 30) from rfl]
  generalize W.alloc (.cells (tkv 6 n (.slice ta 0 tc)) 30) = W1 at *
  have htb : Txt W1 ta tc [] := htw.below hK.2
  obtain ⟨bT, HbT⟩ : ∃ b, Hid (W.heap.size = b) := ⟨_, rfl⟩
  rw [HbT.out] at hK hlR hlN ⊢
  clear c1 c2 c3
  obtain ⟨c1, c2, c3⟩ := own_three (hK.at bT (tkv 6 n (.slice ta 0 tc)) 30 (.head _))
  replace hlR := show Hid _ from hlR
  replace hlN := show Hid _ from hlN
  go_upto_region 23 with fail
  go_wp2_with fail
  refine (phead_is 4 n (by decide) (by omega) _).mono ?_
  rintro e w2 ⟨a2, c2', rfl, hO, hb2⟩
  have hbW : Hid (w.heap.size ≤ W1.heap.size) := hK.2.size
  have hK := hK.below hb2
  have c1 := (hb2.cell (p := ⟨bT, 0, none⟩) (World.block_lt_of_cell? W1 _ c1)).trans c1
  have c2 := (hb2.cell (p := ⟨bT, 1, none⟩) (World.block_lt_of_cell? W1 _ c2)).trans c2
  go_upto_region 24 with fail
  obtain ⟨bO, HbO⟩ : ∃ b, Hid (w2.heap.size = b) := ⟨_, rfl⟩
  have hbO : Hid (w.heap.size ≤ bO) := by show _ ≤ _; have := hbW.out; have := hb2.size; have := HbO.out; omega
  have hNO : Hid (bN < w2.heap.size) := (hK.at bN (wkv 0 (.slice none 0 0) true) 53 (.tail _ (.head _))).lt
  have hRO : Hid (bR < w2.heap.size) := (hK.at bR (wkv 0 (.slice none 0 0) false) 53 (.tail _ (.tail _ (.head _)))).lt
  have hTO : Hid (bT < w2.heap.size) := (hK.at bT (tkv 6 n (.slice ta 0 tc)) 30 (.head _)).lt
  have hK := hK.alloc (wkv ((q : Int) + 1) (.slice a2 (1 + hsize n) c2') false) 53
  rw [show w2.alloc (.cells #[.int .i64 ((q : Int) + 1), .slice a2 (1 + hsize n) c2', .bool false] 53) = w2.alloc (.cells (wkv ((q : Int) + 1) (.slice a2 (1 + hsize n) c2') false) 53) from rfl]
  generalize w2.alloc (.cells (wkv ((q : Int) + 1) (.slice a2 (1 + hsize n) c2') false) 53) = W2 at *
  rw [HbO.out] at hK hNO hRO hTO ⊢
  clear c1 c2 c3 hO
  obtain ⟨c1, c2, c3⟩ := own_three (hK.at bT (tkv 6 n (.slice ta 0 tc)) 30 (.tail _ (.head _)))
  go_upto_region 26 with fail
  go_wp2_with fail
  refine (phead_is 5 n (by decide) (by omega) _).mono ?_
  rintro e w3 ⟨a3, c3', rfl, hO, hb3⟩
  obtain ⟨g, cur, rfl, eL, hgb, hOg, hRow⟩ := hO.rowB (by omega)
  obtain ⟨X, HX⟩ : ∃ X, Hid (hd 5 n = X) := ⟨_, rfl⟩
  rw [HX.out] at eL hRow
  rw [eL]
  replace eL := show Hid _ from eL
  have hgb : Hid (w.heap.size ≤ g) := Nat.le_trans hK.2.size hgb
  have hK := hK.below hb3
  have nOG : bO ≠ g := Ne.symm (own_ne hOg (hK.at bO (wkv ((q : Int) + 1) (.slice a2 (1 + hsize n) c2') false) 53 (.head _)) (by decide))
  have hK1 := kp_set1 (o := 1) hK (by
    intro p hp
    simp only [List.mem_cons, List.not_mem_nil, or_false] at hp
    have h1 := hNO.out
    have h2 := hRO.out
    have h3 := hTO.out
    rcases hp with rfl | rfl | rfl <;> simp only <;> omega) hbO.out (.slice (some ⟨g, 0, none⟩) X.length c3')
  have hOg1 := hOg.setCell_other (p := ⟨bO, 1, none⟩) nOG (.slice (some ⟨g, 0, none⟩) X.length c3')
  obtain ⟨cO0, cO1, cO2⟩ := own_three (hK.at bO (wkv ((q : Int) + 1) (.slice a2 (1 + hsize n) c2') false) 53 (.head _))
  have hfz := (hK.at bO (wkv ((q : Int) + 1) (.slice a2 (1 + hsize n) c2') false) 53 (.head _)).frozen
  go_upto_region 27 with fail
  clear cO0 cO1 cO2 hfz
  have hK2 := Kp.cons hK1 hOg1
  generalize w3.setCell ⟨bO, 1, none⟩ (.slice (some ⟨g, 0, none⟩) X.length c3') = W3 at *
  have hK : Kp [(bO, wkv ((q : Int) + 1) (.slice (some ⟨g, 0, none⟩) X.length c3') false, 53), (g, cur, 5), (bT, (tkv 6 n (.slice ta 0 tc)), 30), (bN, wkv 0 (.slice none 0 0) true, 53), (bR, wkv 0 (.slice none 0 0) false, 53)] w W3 := kp_sub hK2 (by
    intro p hp
    simp only [List.mem_cons, List.not_mem_nil, or_false] at hp ⊢
    rcases hp with h | h | h | h | h <;> simp [h, wkv])
  clear hK1 hK2 c1 c2 c3
  obtain ⟨c1, c2, c3⟩ := own_three (hK.at bT (tkv 6 n (.slice ta 0 tc)) 30 (.tail _ (.tail _ (.head _))))
  go_upto_region 29 with fail
  go_loopw [11, 12] (fun lv iv wr => ∃ (i q1 g cap : Nat) (cur : Array Value) (xs : List (List Int)) (X : List Int) (E : Nat × Array Value × TypeId), i ≤ (2 * n) ∧ iv = .int .i64 (i : Int) ∧ q1 ≤ l.length ∧ Hid (runs (item d) i (l.drop (q + 1)) = some (xs, l.drop q1)) ∧ Hid (X = hd 5 n ++ xs.flatten) ∧ Hid (Bys X) ∧ Hid (0 < X.length ∧ X.length ≤ 32768) ∧ Hid (RowB cur cap X) ∧ Hid (w.heap.size ≤ g) ∧ Kp [(bO, wkv (q1 : Int) (.slice (some ⟨g, 0, none⟩) X.length cap) false, 53), (g, cur, 5), E, (bT, tkv 6 n (.slice ta 0 tc), 30), (bN, wkv 0 (.slice none 0 0) true, 53), (bR, wkv 0 (.slice none 0 0) false, 53)] w wr ∧ Hid (keysUp xs = true) ∧ Hid (E.1 ≠ g ∧ E.1 ≠ bO) ∧ ((i = 0 ∧ lv = .slice none 0 0) ∨ ∃ gl curl capl key, 0 < i ∧ Hid (key = xs.getD ((i - 1) / 2 * 2) []) ∧ Hid (E = (gl, curl, 5)) ∧ lv = .slice (some ⟨gl, 0, none⟩) key.length capl ∧ Hid (RowB curl capl key) ∧ Hid (Bys key))) (fun _ iv _ => (2 * n) - (intOf iv).toNat)
  case atStart => exact ⟨0, q + 1, g, c3', cur, [], X, (bT, tkv 6 n (.slice ta 0 tc), 30), Nat.zero_le _, rfl, hq, rfl, by show _ = _; rw [List.flatten_nil, List.append_nil]; exact HX.out.symm, by show Bys _; rw [← HX.out]; exact hd_bytes (by decide), by show _ ∧ _; have := hsize_le n; have : 1 + hsize n = X.length := eL; omega, hRow, hgb, kp_sub hK (by simp), rfl, show _ ∧ _ from ⟨(own_ne (hK.at bT (tkv 6 n (.slice ta 0 tc)) 30 (.tail _ (.tail _ (.head _)))) (hK.at g cur 5 (.tail _ (.head _))) (by decide)), (own_ne (hK.at bT (tkv 6 n (.slice ta 0 tc)) 30 (.tail _ (.tail _ (.head _)))) (hK.at bO (wkv ((q : Int) + 1) (.slice (some ⟨g, 0, none⟩) X.length c3') false) 53 (.head _)) (by decide))⟩, .inl ⟨rfl, rfl⟩⟩
  case round =>
    clear hK
    obtain ⟨i, q1, g, cap2, cur, xs, X, E, hi, rfl, hq1, hruns, hX, hBX, hXl, hRow, hgb, hK, hKU, hE, hlast⟩ := hrel
    have hi0 : (0 : Int) ≤ (i : Int) := by omega
    have hq1' : (q1 : Int) ≤ 1000 := by have := hl.1; omega
    have hq10 : (0 : Int) ≤ (q1 : Int) := by omega
    obtain ⟨cO0, cO1, cO2⟩ := own_three (hK.at bO (wkv (q1 : Int) (.slice (some ⟨g, 0, none⟩) X.length cap2) false) 53 (.head _))
    by_cases hlt : i < (2 * n)
    · have hlt' : (i : Int) < 2 * (n : Int) := by omega
      go_wp2_with fail
      have hK0 := hK
      refine (IH.out q1 wr hq1 (hm.below hK.2)).mono ?_
      rintro e w4 ⟨hS, hb4⟩
      rcases hS with ⟨rfl, hbad⟩ | ⟨x, r', ax, cx, hx, hr', rfl, hOx, hBx, hx200⟩
      · have hwhy : Hid (I = none ∨ ∃ x r, I = some (x, r) ∧ 32768 < x.length) := by
          show _ ∨ _
          rw [← HI.out]
          rcases hbad with hb | ⟨x, r, hb, hbl⟩
          · exact .inl (itemL_none hruns.out (show i < howMany 6 ((n : Int).toNat) by rw [Int.toNat_natCast]; unfold howMany; rw [if_neg (by decide)]; exact hlt) hb)
          · exact itemL_long hruns.out (show i < howMany 6 ((n : Int).toNat) by rw [Int.toNat_natCast]; unfold howMany; rw [if_neg (by decide)]; exact hlt) hb 5 rfl (by omega)
        clear hbad
        simp only [wkv]
        go_upto_region 32 with fail
        have hK := (hK.below hb4).alloc (wkv 0 (.slice none 0 0) true) 53
        rw [show w4.alloc (.cells #[.int .i64 0, .slice none 0 0, .bool true] 53) = w4.alloc (.cells (wkv 0 (.slice none 0 0) true) 53) from rfl]
        obtain ⟨bX, HbX⟩ : ∃ b, Hid (w4.heap.size = b) := ⟨_, rfl⟩
        generalize w4.alloc (.cells (wkv 0 (.slice none 0 0) true) 53) = W5 at *
        rw [HbX.out] at hK ⊢
        clear cO0 cO1 cO2
        obtain ⟨cX0, cX1, cX2⟩ := own_three (hK.at bX (wkv 0 (.slice none 0 0) true) 53 (.head _))
        go_upto_region 33 with fail
        go_wp2_with (first
          | refine wpList_load_own (by rfl) 53 (.tmp 7) (by rfl) bN (by rfl) (wkv 0 (.slice none 0 0) true) _ (hK.at bN (wkv 0 (.slice none 0 0) true) 53 (.tail _ (.tail _ (.tail _ (.tail _ (.tail _ (.head _))))))) Tryd.underlying53 (by rfl) (walk_info _ _ _) ?_
          | refine wpList_store_own (op := { dst := none, op := _, type := _, pos := _, after := _, guard := _ }) rfl 53 (.tmp 6) (.tmp 158) rfl bR 0 (wkv 0 (.slice none 0 0) true) (by rfl) (by rfl) (hK.at bR (wkv 0 (.slice none 0 0) false) 53 (.tail _ (.tail _ (.tail _ (.tail _ (.tail _ (.tail _ (.head _)))))))) (wkv_le _ _ _ _ _ _) (walk_info _ _ _) (wkv_one _ _ _ _ _) (by rfl) ?_)
        refine bodyPost_ret (results_walk Tryd.results23 _ _ bR 0 (.slice none 0 0) true (by rfl) (own_setCells (hK.at bR (wkv 0 (.slice none 0 0) false) 53 (.tail _ (.tail _ (.tail _ (.tail _ (.tail _ (.tail _ (.head _)))))))) rfl)) rfl ⟨.inl ⟨rfl, hwhy.out⟩, Below.setCells _ _ _ _ (by rw [HbR.out]; exact Nat.le_refl _) hK.2⟩
      · obtain ⟨q2, hq2, hr2, hat⟩ := item_suffix hq1 hx
        subst hr2
        have hat' : (l.length : Int) - ((l.drop q2).length : Int) = (q2 : Int) := by omega
        rw [hat']
        have hxp := item_pos hx
        obtain ⟨gx, curx, rfl, -, hgxb, hOgx, hRowx⟩ := hOx.rowB hxp
        have hgxg : Hid (g < gx) := Nat.lt_of_lt_of_le (hK.at g cur 5 (.tail _ (.head _))).lt hgxb
        have hgxb : Hid (w.heap.size ≤ gx) := Nat.le_trans hK.2.size hgxb
        have hx := show Hid _ from hx
        have hBx := show Hid _ from hBx
        have hRowx := show Hid _ from hRowx
        simp only [wkv]
        go_upto_region 32 with fail
        have hK := (Kp.cons (hK.below hb4) hOgx).alloc (wkv (q2 : Int) (.slice (some ⟨gx, 0, none⟩) x.length cx) false) 53
        rw [show w4.alloc (.cells #[.int .i64 (q2 : Int), .slice (some ⟨gx, 0, none⟩) x.length cx, .bool false] 53) = w4.alloc (.cells (wkv (q2 : Int) (.slice (some ⟨gx, 0, none⟩) x.length cx) false) 53) from rfl]
        obtain ⟨bX, HbX⟩ : ∃ b, Hid (w4.heap.size = b) := ⟨_, rfl⟩
        have hbX : Hid (bO < bX) := by show _ < _; rw [← HbX.out]; exact Nat.lt_of_lt_of_le (hK0.at bO _ 53 (.head _)).lt hb4.size
        generalize w4.alloc (.cells (wkv (q2 : Int) (.slice (some ⟨gx, 0, none⟩) x.length cx) false) 53) = W5 at *
        rw [HbX.out] at hK ⊢
        clear cO0 cO1 cO2
        obtain ⟨cX0, cX1, cX2⟩ := own_three (hK.at bX (wkv (q2 : Int) (.slice (some ⟨gx, 0, none⟩) x.length cx) false) 53 (.head _))
        obtain ⟨cO0, cO1, cO2⟩ := own_three (hK.at bO (wkv (q1 : Int) (.slice (some ⟨g, 0, none⟩) X.length cap2) false) 53 (.tail _ (.tail _ (.head _))))
        obtain ⟨cT0, cT1, cT2⟩ := own_three (hK.at bT (tkv 6 n (.slice ta 0 tc)) 30 (.tail _ (.tail _ (.tail _ (.tail _ (.tail _ (.head _)))))))
        have hXL : (X.length : Int) ≤ 32768 := by have := hXl.out; omega
        have hxl0 : (x.length : Int) ≤ 200000 := by omega
        by_cases hlong : 32768 < X.length + x.length
        · have hlong' : (32768 : Int) < (X.length : Int) + (x.length : Int) := by omega
          have hwhy : Hid (I = none ∨ ∃ x r, I = some (x, r) ∧ 32768 < x.length) := by
            show _ ∨ _
            rw [← HI.out]
            exact itemL_long hruns.out (show i < howMany 6 ((n : Int).toNat) by rw [Int.toNat_natCast]; unfold howMany; rw [if_neg (by decide)]; exact hlt) hx.out 5 rfl (by rw [Int.toNat_natCast, ← hX.out]; exact hlong)
          go_upto_region 33 with fail
          go_wp2_with (first
            | refine wpList_load_own (by rfl) 53 (.tmp 7) (by rfl) bN (by rfl) (wkv 0 (.slice none 0 0) true) _ (hK.at bN (wkv 0 (.slice none 0 0) true) 53 (.tail _ (.tail _ (.tail _ (.tail _ (.tail _ (.tail _ (.head _)))))))) Tryd.underlying53 (by rfl) (walk_info _ _ _) ?_
            | refine wpList_store_own (op := { dst := none, op := _, type := _, pos := _, after := _, guard := _ }) rfl 53 (.tmp 6) (.tmp 158) rfl bR 0 (wkv 0 (.slice none 0 0) true) (by rfl) (by rfl) (hK.at bR (wkv 0 (.slice none 0 0) false) 53 (.tail _ (.tail _ (.tail _ (.tail _ (.tail _ (.tail _ (.tail _ (.head _))))))))) (wkv_le _ _ _ _ _ _) (walk_info _ _ _) (wkv_one _ _ _ _ _) (by rfl) ?_)
          refine bodyPost_ret (results_walk Tryd.results23 _ _ bR 0 (.slice none 0 0) true (by rfl) (own_setCells (hK.at bR (wkv 0 (.slice none 0 0) false) 53 (.tail _ (.tail _ (.tail _ (.tail _ (.tail _ (.tail _ (.tail _ (.head _))))))))) rfl)) rfl ⟨.inl ⟨rfl, hwhy.out⟩, Below.setCells _ _ _ _ (by rw [HbR.out]; exact Nat.le_refl _) hK.2⟩
        have hlong' : ¬ (32768 : Int) < (X.length : Int) + (x.length : Int) := by omega
        have nOG : Hid (bO ≠ g) := Ne.symm (own_ne (hK.at g cur 5 (.tail _ (.tail _ (.tail _ (.head _))))) (hK.at bO (wkv (q1 : Int) (.slice (some ⟨g, 0, none⟩) X.length cap2) false) 53 (.tail _ (.tail _ (.head _)))) (by decide))
        have nXO : Hid (gx ≠ bO) := own_ne (hK.at gx curx 5 (.tail _ (.head _))) (hK.at bO (wkv (q1 : Int) (.slice (some ⟨g, 0, none⟩) X.length cap2) false) 53 (.tail _ (.tail _ (.head _)))) (by decide)
        have nTO : Hid (bT ≠ bO) := own_ne (hK.at bT (tkv 6 n (.slice ta 0 tc)) 30 (.tail _ (.tail _ (.tail _ (.tail _ (.tail _ (.head _))))))) (hK.at bO (wkv (q1 : Int) (.slice (some ⟨g, 0, none⟩) X.length cap2) false) 53 (.tail _ (.tail _ (.head _)))) (by decide)
        have nBO : Hid (bX ≠ bO) := by show _ ≠ _; have := hbX.out; omega
        have nNO : Hid (bN ≠ bO) := by show _ ≠ _; have := hNO.out; omega
        have nRO : Hid (bR ≠ bO) := by show _ ≠ _; have := hRO.out; omega
        have nXG : Hid (gx ≠ g) := by show _ ≠ _; have := hgxg.out; omega
        have nBG : Hid (bX ≠ g) := Ne.symm (own_ne (hK.at g cur 5 (.tail _ (.tail _ (.tail _ (.head _))))) (hK.at bX (wkv (q2 : Int) (.slice (some ⟨gx, 0, none⟩) x.length cx) false) 53 (.head _)) (by decide))
        have nTG : Hid (bT ≠ g) := Ne.symm (own_ne (hK.at g cur 5 (.tail _ (.tail _ (.tail _ (.head _))))) (hK.at bT (tkv 6 n (.slice ta 0 tc)) 30 (.tail _ (.tail _ (.tail _ (.tail _ (.tail _ (.head _))))))) (by decide))
        have nNG : Hid (bN ≠ g) := Ne.symm (own_ne (hK.at g cur 5 (.tail _ (.tail _ (.tail _ (.head _))))) (hK.at bN (wkv 0 (.slice none 0 0) true) 53 (.tail _ (.tail _ (.tail _ (.tail _ (.tail _ (.tail _ (.head _)))))))) (by decide))
        have nRG : Hid (bR ≠ g) := Ne.symm (own_ne (hK.at g cur 5 (.tail _ (.tail _ (.tail _ (.head _))))) (hK.at bR (wkv 0 (.slice none 0 0) false) 53 (.tail _ (.tail _ (.tail _ (.tail _ (.tail _ (.tail _ (.tail _ (.head _))))))))) (by decide))
        obtain ⟨KK, HKK⟩ : ∃ KK : List (Nat × Array Value × TypeId), Hid (KK = [(gx, curx, 5), E, (bX, wkv (q2 : Int) (.slice (some ⟨gx, 0, none⟩) x.length cx) false, 53), (bT, tkv 6 n (.slice ta 0 tc), 30), (bN, wkv 0 (.slice none 0 0) true, 53), (bR, wkv 0 (.slice none 0 0) false, 53)]) := ⟨[(gx, curx, 5), E, (bX, wkv (q2 : Int) (.slice (some ⟨gx, 0, none⟩) x.length cx) false, 53), (bT, tkv 6 n (.slice ta 0 tc), 30), (bN, wkv 0 (.slice none 0 0) true, 53), (bR, wkv 0 (.slice none 0 0) false, 53)], rfl⟩
        have hKKg : Hid (∀ p ∈ KK, p.1 ≠ g) := by
          show ∀ p ∈ KK, p.1 ≠ g
          rw [HKK.out]
          exact fs (b := g) (Ne.symm nXG.out) <| fs (b := g) (Ne.symm hE.out.1) <| fs (Ne.symm nBG.out) <| fs (Ne.symm nTG.out) <| fs (Ne.symm nNG.out) <| fs (Ne.symm nRG.out) fn
        have hKKO : Hid (∀ p ∈ KK, p.1 ≠ bO) := by
          show ∀ p ∈ KK, p.1 ≠ bO
          rw [HKK.out]
          exact fs (b := bO) (Ne.symm nXO.out) <| fs (b := bO) (Ne.symm hE.out.2) <| fs (Ne.symm nBO.out) <| fs (Ne.symm nTO.out) <| fs (Ne.symm nNO.out) <| fs (Ne.symm nRO.out) fn
        have hGXm : Hid ((gx, curx, 5) ∈ KK) := by show _ ∈ _; rw [HKK.out]; exact .head _
        have hBXm : Hid ((bX, wkv (q2 : Int) (.slice (some ⟨gx, 0, none⟩) x.length cx) false, 53) ∈ KK) := by show _ ∈ _; rw [HKK.out]; exact (.tail _ (.tail _ (.head _)))
        have hKr : Kp ((bO, (wkv (q1 : Int) (.slice (some ⟨g, 0, none⟩) X.length cap2) false), 53) :: (g, cur, 5) :: KK) w W5 := kp_sub hK (by
          rw [HKK.out]
          intro p hp
          simp only [List.mem_cons, List.not_mem_nil, or_false] at hp ⊢
          rcases hp with h | h | h | h | h | h | h | h <;> simp [h])
        have hxsl : Hid (xs.length = i) := runs_length hruns.out
        have hEm : Hid (E ∈ KK) := by show _ ∈ _; rw [HKK.out]; exact .tail _ (.head _)
        by_cases hpar : i % 2 = 0
        · have hp1 : (i : Int).tmod 2 = 0 := by rw [Int.tmod_eq_emod_of_nonneg hi0]; omega
          have hp2 : (i : Int) % 2 = 0 := by omega
          by_cases hz : i = 0
          · have hpos : ¬ (0 : Int) < (i : Int) := by omega
            clear hlast
            have hku2 : Hid (keysUp (xs ++ [x]) = true) := by
              show _ = _
              rw [List.eq_nil_of_length_eq_zero (hxsl.out.trans hz)]
              rfl
            go_upto_region 38 with fail
            clear cO0 cO1 cO2 cX0 cX1 cX2 cT0 cT1 cT2
            refine wp_region_lt 191 10 (fun L => (bO, (if L 8 = true then (wkv (q2 : Int) (.slice (some ⟨g, 0, none⟩) X.length cap2) false) else (wkv (q1 : Int) (.slice (some ⟨g, 0, none⟩) X.length cap2) false)), 53) :: (if L 6 = true then KK else (g, cur, 5) :: KK))
              [.v (.pointer (some ⟨bX, 0, none⟩)), .v (.int .i64 (q2 : Int)), .v (.pointer (some ⟨bO, 1, none⟩)), .v (.slice (some ⟨g, 0, none⟩) X.length cap2), .v (.pointer (some ⟨bX, 1, none⟩)), .v (.slice (some ⟨gx, 0, none⟩) x.length cx), .ow (obR w.heap.size (X ++ x)), .v (.pointer (some ⟨bO, 0, none⟩)), .o, .v (.pointer (some ⟨bO, 1, none⟩))] hKr (by kernel_rfl) (by kernel_rfl) (by kernel_rfl) (by rfl) (by kernel_rfl) (by kernel_rfl) ?_ ?_
            · have hin : ∀ (L : Nat → Bool) (p : Nat × Array Value × TypeId), p ∈ KK → p ∈ (bO, (if L 8 = true then (wkv (q2 : Int) (.slice (some ⟨g, 0, none⟩) X.length cap2) false) else (wkv (q1 : Int) (.slice (some ⟨g, 0, none⟩) X.length cap2) false)), 53) :: (if L 6 = true then KK else (g, cur, 5) :: KK) := fun L p hp => by
                cases L 6
                · exact .tail _ (.tail _ hp)
                · exact .tail _ hp
              refine .c (.p1 13 (.pointer (some ⟨bX, 0, none⟩))) <| .c (.lc bX 0 (fun L wq hk => (own_three (hk.at bX (wkv (q2 : Int) (.slice (some ⟨gx, 0, none⟩) x.length cx) false) 53 (hin L _ hBXm.out))).1) load_i64) <| .c (.p1 10 (.pointer (some ⟨bO, 0, none⟩))) <| .c (.lc bO 1 (fun L wq hk => own_if (hk.at bO _ 53 (.head _))) load_bytes) <| .c (.p1 13 (.pointer (some ⟨bX, 0, none⟩))) <| .c (.lc bX 1 (fun L wq hk => (own_three (hk.at bX (wkv (q2 : Int) (.slice (some ⟨gx, 0, none⟩) x.length cx) false) 53 (hin L _ hBXm.out))).2.1) load_bytes) <| .c (.ak g hRow.out hgb.out ?_ (fun L vs wq hA => ⟨some ⟨gx, 0, none⟩, cx, rfl, RowB.tx hRowx.out (hA.j.kp.at gx curx 5 (hin L _ hGXm.out)) hBx.out⟩) (by have := hXl.out; omega)) <| .c (.p1 10 (.pointer (some ⟨bO, 0, none⟩))) <| .c (.sc bO 0 (fun L => if L 8 = true then (wkv (q2 : Int) (.slice (some ⟨g, 0, none⟩) X.length cap2) false) else (wkv (q1 : Int) (.slice (some ⟨g, 0, none⟩) X.length cap2) false)) (.int .i64 (q2 : Int)) (OvC.hr (r := fun L => if L 6 = true then KK else (g, cur, 5) :: KK) (fun _ => rfl) (fun _ => rfl) ?_) ?_ ?_ hbO.out one_i64) <| .c (.p1 10 (.pointer (some ⟨bO, 0, none⟩))) .nil
              · intro L hL6
                have e6 : lset L 6 true 6 = true := lset_at L 6 true
                have e8 : lset L 6 true 8 = L 8 := lset_ne (by decide)
                simp only [e6, e8, hL6, reduceIte, Bool.false_eq_true]
                refine ⟨.tail _ (.head _), fun p hp => ?_⟩
                rcases List.mem_cons.1 hp with rfl | hp
                · exact ⟨.head _, nOG.out⟩
                · exact ⟨.tail _ (.tail _ hp), hKKg.out p hp⟩
              · intro L p hp
                cases h6 : L 6 with
                | true =>
                  simp only [h6, reduceIte] at hp
                  exact hKKO.out p hp
                | false =>
                  simp only [h6, reduceIte, Bool.false_eq_true] at hp
                  rcases List.mem_cons.1 hp with rfl | hp
                  · exact Ne.symm nOG.out
                  · exact hKKO.out p hp
              · intro L hL8
                have e8 : lset L 8 true 8 = true := lset_at L 8 true
                simp only [e8, hL8, reduceIte, Bool.false_eq_true]
                rfl
              · intro L
                cases L 8 <;> exact (by decide : 0 < 3)
            · intro vs V hJ hf
              simp only [List.take_succ_cons, List.take_zero, List.drop_succ_cons, List.drop_zero, putL, Lv.val, Act.put, List.setIfInBounds_toArray, List.set_cons_succ, List.set_cons_zero]
              have bAll : Hid (Bys (X ++ x)) := fun z hz => (List.mem_append.1 hz).elim (hBX.out z) (hBx.out z)
              have hO6 : OwnBytes V w.heap.size (vs 6) (X ++ x) := hJ.ow 6 _ rfl rfl
              obtain ⟨a6, c6, e6, -⟩ := OwnBytes.form hO6 bAll.out
              obtain ⟨Y, HY⟩ : ∃ Y, Hid (X ++ x = Y) := ⟨_, rfl⟩
              rw [HY.out] at hO6 e6 bAll
              rw [e6] at hO6
              have hYl : Hid (0 < Y.length ∧ Y.length ≤ 32768) := by show _ ∧ _; rw [← HY.out, List.length_append]; have := hXl.out; omega
              obtain ⟨g6, cur6, rfl, -, hg6, hOg6, hRow6⟩ := hO6.rowB hYl.out.1
              have hK2 : Kp ((bO, (wkv (q2 : Int) (.slice (some ⟨g, 0, none⟩) X.length cap2) false), 53) :: KK) w V := hJ.kp
              have n6O : g6 ≠ bO := own_ne hOg6 (hK2.at bO (wkv (q2 : Int) (.slice (some ⟨g, 0, none⟩) X.length cap2) false) 53 (.head _)) (by decide)
              have n6 : ∀ p ∈ (KK : List (Nat × Array Value × TypeId)), p.1 ≠ g6 := fun p hp => (hJ.fr 6 rfl rfl g6 (by rw [e6]; exact .head _)).2.2 p (.tail _ hp)
              have hK3 := kp_set1 (o := 1) hK2 hKKO.out hbO.out (.slice (some ⟨g6, 0, none⟩) Y.length c6)
              have hOg7 := hOg6.setCell_other (p := ⟨bO, 1, none⟩) (by exact Ne.symm n6O) (.slice (some ⟨g6, 0, none⟩) Y.length c6)
              have hK4 := Kp.cons hK3 hOg7
              refine wpList_store_one (by rfl) 24 (.tmp 188) (.tmp 186) (by rfl) bO 1 (.slice (some ⟨g6, 0, none⟩) Y.length c6) (by rfl) (by exact e6) (hK2.at bO (wkv (q2 : Int) (.slice (some ⟨g, 0, none⟩) X.length cap2) false) 53 (.head _)) (show 1 < 3 by decide) one_bytes (by rfl) (by rfl) ?_
              have hrel2 : Hid (runs (item d) (i + 1) (l.drop (q + 1)) = some (xs ++ [x], l.drop q2)) := runs_snoc hruns.out hx.out
              have hY2 : Hid (Y = hd 5 n ++ (xs ++ [x]).flatten) := by show _ = _; rw [← HY.out, hX.out, List.flatten_append, List.append_assoc]; simp
              have hK5 := HKK.out
              subst hK5
              go_wp2_with fail
              go_roundw
              case rel => exact ⟨i + 1, q2, g6, c6, cur6, xs ++ [x], Y, (gx, curx, 5), hlt, by go_num, hq2, hrel2, hY2, bAll, hYl, hRow6, hg6, kp_sub hK4 (by
                intro p hp
                simp only [List.mem_cons, List.not_mem_nil, or_false] at hp ⊢
                rcases hp with h | h | h | h | h | h <;> simp [h, wkv]), hku2, show _ ∧ _ from ⟨n6 _ hGXm.out, hKKO.out _ hGXm.out⟩, .inr ⟨gx, curx, cx, x, by omega, by show _ = _; rw [show (i + 1 - 1) / 2 * 2 = xs.length by rw [hxsl.out]; omega]; simp [List.getD], rfl, rfl, hRowx, hBx⟩⟩
              case measure => simp [intOf]; omega
          · have hpos : (0 : Int) < (i : Int) := by omega
            obtain ⟨gl, curl, capl, key, -, hkey, hEe, rfl, hRl, hBl⟩ := hlast.resolve_left (fun h => hz h.1)
            clear hlast
            have hkeyE : Hid (key = xs.getD (i - 2) []) := by show _ = _; rw [hkey.out, show (i - 1) / 2 * 2 = i - 2 by omega]
            have hOl : Own W5 gl curl 5 := by
              have := hK.1 E (.tail _ (.tail _ (.tail _ (.tail _ (.head _)))))
              rw [hEe.out] at this
              exact this
            have cv1 := conv_txt (RowB.tx hRowx.out (hK.at gx curx 5 (.tail _ (.head _))) hBx.out) rfl
            have cv2 := conv_txt (RowB.tx hRl.out hOl hBl.out) rfl
            have l1 := str_less hBx.out hBl.out
            have l2 := str_same hBx.out hBl.out
            rcases ahead_tri x key with ⟨t1, hnot, -⟩ | ⟨t1, t2, hnot⟩ | ⟨t1, t2, t3⟩
            · rw [t1] at l1
              have hwhy : Hid (I = none ∨ ∃ x r, I = some (x, r) ∧ 32768 < x.length) := .inl (by rw [← HI.out]; exact itemL_order hruns.out (show i < howMany 6 ((n : Int).toNat) by rw [Int.toNat_natCast]; unfold howMany; rw [if_neg (by decide)]; exact hlt) hx.out rfl (by rw [keysUp_key x (by rw [hxsl.out]; exact hpar) (by rw [hxsl.out]; omega), hxsl.out, ← hkeyE.out, hnot, Bool.and_false]))
              go_upto_region 36 with fail
              go_wp2_with (first
                | refine wpList_load_own (by rfl) 53 (.tmp 7) (by rfl) bN (by rfl) (wkv 0 (.slice none 0 0) true) _ (hK.at bN (wkv 0 (.slice none 0 0) true) 53 (.tail _ (.tail _ (.tail _ (.tail _ (.tail _ (.tail _ (.head _)))))))) Tryd.underlying53 (by rfl) (walk_info _ _ _) ?_
                | refine wpList_store_own (op := { dst := none, op := _, type := _, pos := _, after := _, guard := _ }) rfl 53 (.tmp 6) (.tmp 177) rfl bR 0 (wkv 0 (.slice none 0 0) true) (by rfl) (by rfl) (hK.at bR (wkv 0 (.slice none 0 0) false) 53 (.tail _ (.tail _ (.tail _ (.tail _ (.tail _ (.tail _ (.tail _ (.head _))))))))) (wkv_le _ _ _ _ _ _) (walk_info _ _ _) (wkv_one _ _ _ _ _) (by rfl) ?_)
              refine bodyPost_ret (results_walk Tryd.results23 _ _ bR 0 (.slice none 0 0) true (by rfl) (own_setCells (hK.at bR (wkv 0 (.slice none 0 0) false) 53 (.tail _ (.tail _ (.tail _ (.tail _ (.tail _ (.tail _ (.tail _ (.head _))))))))) rfl)) rfl ⟨.inl ⟨rfl, hwhy.out⟩, Below.setCells _ _ _ _ (by rw [HbR.out]; exact Nat.le_refl _) hK.2⟩
            · rw [t2] at l1
              rw [decide_eq_true t1] at l2
              clear t1
              have hwhy : Hid (I = none ∨ ∃ x r, I = some (x, r) ∧ 32768 < x.length) := .inl (by rw [← HI.out]; exact itemL_order hruns.out (show i < howMany 6 ((n : Int).toNat) by rw [Int.toNat_natCast]; unfold howMany; rw [if_neg (by decide)]; exact hlt) hx.out rfl (by rw [keysUp_key x (by rw [hxsl.out]; exact hpar) (by rw [hxsl.out]; omega), hxsl.out, ← hkeyE.out, hnot, Bool.and_false]))
              go_upto_region 36 with fail
              go_wp2_with (first
                | refine wpList_load_own (by rfl) 53 (.tmp 7) (by rfl) bN (by rfl) (wkv 0 (.slice none 0 0) true) _ (hK.at bN (wkv 0 (.slice none 0 0) true) 53 (.tail _ (.tail _ (.tail _ (.tail _ (.tail _ (.tail _ (.head _)))))))) Tryd.underlying53 (by rfl) (walk_info _ _ _) ?_
                | refine wpList_store_own (op := { dst := none, op := _, type := _, pos := _, after := _, guard := _ }) rfl 53 (.tmp 6) (.tmp 177) rfl bR 0 (wkv 0 (.slice none 0 0) true) (by rfl) (by rfl) (hK.at bR (wkv 0 (.slice none 0 0) false) 53 (.tail _ (.tail _ (.tail _ (.tail _ (.tail _ (.tail _ (.tail _ (.head _))))))))) (wkv_le _ _ _ _ _ _) (walk_info _ _ _) (wkv_one _ _ _ _ _) (by rfl) ?_)
              refine bodyPost_ret (results_walk Tryd.results23 _ _ bR 0 (.slice none 0 0) true (by rfl) (own_setCells (hK.at bR (wkv 0 (.slice none 0 0) false) 53 (.tail _ (.tail _ (.tail _ (.tail _ (.tail _ (.tail _ (.tail _ (.head _))))))))) rfl)) rfl ⟨.inl ⟨rfl, hwhy.out⟩, Below.setCells _ _ _ _ (by rw [HbR.out]; exact Nat.le_refl _) hK.2⟩
            · rw [t2] at l1
              rw [decide_eq_false t3] at l2
              have hku2 : Hid (keysUp (xs ++ [x]) = true) := by
                show _ = _
                rw [keysUp_key x (by rw [hxsl.out]; exact hpar) (by rw [hxsl.out]; omega), hxsl.out, ← hkeyE.out, t1, hKU.out]
                rfl
              go_upto_region 38 with fail
              clear cv1 cv2 l1 l2
              go_upto_region 38 with fail
              clear cO0 cO1 cO2 cX0 cX1 cX2 cT0 cT1 cT2
              refine wp_region_lt 191 10 (fun L => (bO, (if L 8 = true then (wkv (q2 : Int) (.slice (some ⟨g, 0, none⟩) X.length cap2) false) else (wkv (q1 : Int) (.slice (some ⟨g, 0, none⟩) X.length cap2) false)), 53) :: (if L 6 = true then KK else (g, cur, 5) :: KK))
                [.v (.pointer (some ⟨bX, 0, none⟩)), .v (.int .i64 (q2 : Int)), .v (.pointer (some ⟨bO, 1, none⟩)), .v (.slice (some ⟨g, 0, none⟩) X.length cap2), .v (.pointer (some ⟨bX, 1, none⟩)), .v (.slice (some ⟨gx, 0, none⟩) x.length cx), .ow (obR w.heap.size (X ++ x)), .v (.pointer (some ⟨bO, 0, none⟩)), .o, .v (.pointer (some ⟨bO, 1, none⟩))] hKr (by kernel_rfl) (by kernel_rfl) (by kernel_rfl) (by rfl) (by kernel_rfl) (by kernel_rfl) ?_ ?_
              · have hin : ∀ (L : Nat → Bool) (p : Nat × Array Value × TypeId), p ∈ KK → p ∈ (bO, (if L 8 = true then (wkv (q2 : Int) (.slice (some ⟨g, 0, none⟩) X.length cap2) false) else (wkv (q1 : Int) (.slice (some ⟨g, 0, none⟩) X.length cap2) false)), 53) :: (if L 6 = true then KK else (g, cur, 5) :: KK) := fun L p hp => by
                  cases L 6
                  · exact .tail _ (.tail _ hp)
                  · exact .tail _ hp
                refine .c (.p1 13 (.pointer (some ⟨bX, 0, none⟩))) <| .c (.lc bX 0 (fun L wq hk => (own_three (hk.at bX (wkv (q2 : Int) (.slice (some ⟨gx, 0, none⟩) x.length cx) false) 53 (hin L _ hBXm.out))).1) load_i64) <| .c (.p1 10 (.pointer (some ⟨bO, 0, none⟩))) <| .c (.lc bO 1 (fun L wq hk => own_if (hk.at bO _ 53 (.head _))) load_bytes) <| .c (.p1 13 (.pointer (some ⟨bX, 0, none⟩))) <| .c (.lc bX 1 (fun L wq hk => (own_three (hk.at bX (wkv (q2 : Int) (.slice (some ⟨gx, 0, none⟩) x.length cx) false) 53 (hin L _ hBXm.out))).2.1) load_bytes) <| .c (.ak g hRow.out hgb.out ?_ (fun L vs wq hA => ⟨some ⟨gx, 0, none⟩, cx, rfl, RowB.tx hRowx.out (hA.j.kp.at gx curx 5 (hin L _ hGXm.out)) hBx.out⟩) (by have := hXl.out; omega)) <| .c (.p1 10 (.pointer (some ⟨bO, 0, none⟩))) <| .c (.sc bO 0 (fun L => if L 8 = true then (wkv (q2 : Int) (.slice (some ⟨g, 0, none⟩) X.length cap2) false) else (wkv (q1 : Int) (.slice (some ⟨g, 0, none⟩) X.length cap2) false)) (.int .i64 (q2 : Int)) (OvC.hr (r := fun L => if L 6 = true then KK else (g, cur, 5) :: KK) (fun _ => rfl) (fun _ => rfl) ?_) ?_ ?_ hbO.out one_i64) <| .c (.p1 10 (.pointer (some ⟨bO, 0, none⟩))) .nil
                · intro L hL6
                  have e6 : lset L 6 true 6 = true := lset_at L 6 true
                  have e8 : lset L 6 true 8 = L 8 := lset_ne (by decide)
                  simp only [e6, e8, hL6, reduceIte, Bool.false_eq_true]
                  refine ⟨.tail _ (.head _), fun p hp => ?_⟩
                  rcases List.mem_cons.1 hp with rfl | hp
                  · exact ⟨.head _, nOG.out⟩
                  · exact ⟨.tail _ (.tail _ hp), hKKg.out p hp⟩
                · intro L p hp
                  cases h6 : L 6 with
                  | true =>
                    simp only [h6, reduceIte] at hp
                    exact hKKO.out p hp
                  | false =>
                    simp only [h6, reduceIte, Bool.false_eq_true] at hp
                    rcases List.mem_cons.1 hp with rfl | hp
                    · exact Ne.symm nOG.out
                    · exact hKKO.out p hp
                · intro L hL8
                  have e8 : lset L 8 true 8 = true := lset_at L 8 true
                  simp only [e8, hL8, reduceIte, Bool.false_eq_true]
                  rfl
                · intro L
                  cases L 8 <;> exact (by decide : 0 < 3)
              · intro vs V hJ hf
                simp only [List.take_succ_cons, List.take_zero, List.drop_succ_cons, List.drop_zero, putL, Lv.val, Act.put, List.setIfInBounds_toArray, List.set_cons_succ, List.set_cons_zero]
                have bAll : Hid (Bys (X ++ x)) := fun z hz => (List.mem_append.1 hz).elim (hBX.out z) (hBx.out z)
                have hO6 : OwnBytes V w.heap.size (vs 6) (X ++ x) := hJ.ow 6 _ rfl rfl
                obtain ⟨a6, c6, e6, -⟩ := OwnBytes.form hO6 bAll.out
                obtain ⟨Y, HY⟩ : ∃ Y, Hid (X ++ x = Y) := ⟨_, rfl⟩
                rw [HY.out] at hO6 e6 bAll
                rw [e6] at hO6
                have hYl : Hid (0 < Y.length ∧ Y.length ≤ 32768) := by show _ ∧ _; rw [← HY.out, List.length_append]; have := hXl.out; omega
                obtain ⟨g6, cur6, rfl, -, hg6, hOg6, hRow6⟩ := hO6.rowB hYl.out.1
                have hK2 : Kp ((bO, (wkv (q2 : Int) (.slice (some ⟨g, 0, none⟩) X.length cap2) false), 53) :: KK) w V := hJ.kp
                have n6O : g6 ≠ bO := own_ne hOg6 (hK2.at bO (wkv (q2 : Int) (.slice (some ⟨g, 0, none⟩) X.length cap2) false) 53 (.head _)) (by decide)
                have n6 : ∀ p ∈ (KK : List (Nat × Array Value × TypeId)), p.1 ≠ g6 := fun p hp => (hJ.fr 6 rfl rfl g6 (by rw [e6]; exact .head _)).2.2 p (.tail _ hp)
                have hK3 := kp_set1 (o := 1) hK2 hKKO.out hbO.out (.slice (some ⟨g6, 0, none⟩) Y.length c6)
                have hOg7 := hOg6.setCell_other (p := ⟨bO, 1, none⟩) (by exact Ne.symm n6O) (.slice (some ⟨g6, 0, none⟩) Y.length c6)
                have hK4 := Kp.cons hK3 hOg7
                refine wpList_store_one (by rfl) 24 (.tmp 188) (.tmp 186) (by rfl) bO 1 (.slice (some ⟨g6, 0, none⟩) Y.length c6) (by rfl) (by exact e6) (hK2.at bO (wkv (q2 : Int) (.slice (some ⟨g, 0, none⟩) X.length cap2) false) 53 (.head _)) (show 1 < 3 by decide) one_bytes (by rfl) (by rfl) ?_
                have hrel2 : Hid (runs (item d) (i + 1) (l.drop (q + 1)) = some (xs ++ [x], l.drop q2)) := runs_snoc hruns.out hx.out
                have hY2 : Hid (Y = hd 5 n ++ (xs ++ [x]).flatten) := by show _ = _; rw [← HY.out, hX.out, List.flatten_append, List.append_assoc]; simp
                have hK5 := HKK.out
                subst hK5
                go_wp2_with fail
                go_roundw
                case rel => exact ⟨i + 1, q2, g6, c6, cur6, xs ++ [x], Y, (gx, curx, 5), hlt, by go_num, hq2, hrel2, hY2, bAll, hYl, hRow6, hg6, kp_sub hK4 (by
                  intro p hp
                  simp only [List.mem_cons, List.not_mem_nil, or_false] at hp ⊢
                  rcases hp with h | h | h | h | h | h <;> simp [h, wkv]), hku2, show _ ∧ _ from ⟨n6 _ hGXm.out, hKKO.out _ hGXm.out⟩, .inr ⟨gx, curx, cx, x, by omega, by show _ = _; rw [show (i + 1 - 1) / 2 * 2 = xs.length by rw [hxsl.out]; omega]; simp [List.getD], rfl, rfl, hRowx, hBx⟩⟩
                case measure => simp [intOf]; omega
        · have hp1 : (i : Int).tmod 2 = 1 := by rw [Int.tmod_eq_emod_of_nonneg hi0]; omega
          have hp2 : (i : Int) % 2 = 1 := by omega
          have hz : ¬ i = 0 := fun h => hpar (by rw [h])
          obtain ⟨gl, curl, capl, key, -, hkey, hEe, rfl, hRl, hBl⟩ := hlast.resolve_left (fun h => hz h.1)
          clear hlast
          have hku2 : Hid (keysUp (xs ++ [x]) = true) := by
            show _ = _
            rw [keysUp_value x (by rw [hxsl.out]; omega)]
            exact hKU.out
          go_upto_region 38 with fail
          clear cO0 cO1 cO2 cX0 cX1 cX2 cT0 cT1 cT2
          refine wp_region_lt 191 10 (fun L => (bO, (if L 8 = true then (wkv (q2 : Int) (.slice (some ⟨g, 0, none⟩) X.length cap2) false) else (wkv (q1 : Int) (.slice (some ⟨g, 0, none⟩) X.length cap2) false)), 53) :: (if L 6 = true then KK else (g, cur, 5) :: KK))
            [.v (.pointer (some ⟨bX, 0, none⟩)), .v (.int .i64 (q2 : Int)), .v (.pointer (some ⟨bO, 1, none⟩)), .v (.slice (some ⟨g, 0, none⟩) X.length cap2), .v (.pointer (some ⟨bX, 1, none⟩)), .v (.slice (some ⟨gx, 0, none⟩) x.length cx), .ow (obR w.heap.size (X ++ x)), .v (.pointer (some ⟨bO, 0, none⟩)), .o, .v (.pointer (some ⟨bO, 1, none⟩))] hKr (by kernel_rfl) (by kernel_rfl) (by kernel_rfl) (by rfl) (by kernel_rfl) (by kernel_rfl) ?_ ?_
          · have hin : ∀ (L : Nat → Bool) (p : Nat × Array Value × TypeId), p ∈ KK → p ∈ (bO, (if L 8 = true then (wkv (q2 : Int) (.slice (some ⟨g, 0, none⟩) X.length cap2) false) else (wkv (q1 : Int) (.slice (some ⟨g, 0, none⟩) X.length cap2) false)), 53) :: (if L 6 = true then KK else (g, cur, 5) :: KK) := fun L p hp => by
              cases L 6
              · exact .tail _ (.tail _ hp)
              · exact .tail _ hp
            refine .c (.p1 13 (.pointer (some ⟨bX, 0, none⟩))) <| .c (.lc bX 0 (fun L wq hk => (own_three (hk.at bX (wkv (q2 : Int) (.slice (some ⟨gx, 0, none⟩) x.length cx) false) 53 (hin L _ hBXm.out))).1) load_i64) <| .c (.p1 10 (.pointer (some ⟨bO, 0, none⟩))) <| .c (.lc bO 1 (fun L wq hk => own_if (hk.at bO _ 53 (.head _))) load_bytes) <| .c (.p1 13 (.pointer (some ⟨bX, 0, none⟩))) <| .c (.lc bX 1 (fun L wq hk => (own_three (hk.at bX (wkv (q2 : Int) (.slice (some ⟨gx, 0, none⟩) x.length cx) false) 53 (hin L _ hBXm.out))).2.1) load_bytes) <| .c (.ak g hRow.out hgb.out ?_ (fun L vs wq hA => ⟨some ⟨gx, 0, none⟩, cx, rfl, RowB.tx hRowx.out (hA.j.kp.at gx curx 5 (hin L _ hGXm.out)) hBx.out⟩) (by have := hXl.out; omega)) <| .c (.p1 10 (.pointer (some ⟨bO, 0, none⟩))) <| .c (.sc bO 0 (fun L => if L 8 = true then (wkv (q2 : Int) (.slice (some ⟨g, 0, none⟩) X.length cap2) false) else (wkv (q1 : Int) (.slice (some ⟨g, 0, none⟩) X.length cap2) false)) (.int .i64 (q2 : Int)) (OvC.hr (r := fun L => if L 6 = true then KK else (g, cur, 5) :: KK) (fun _ => rfl) (fun _ => rfl) ?_) ?_ ?_ hbO.out one_i64) <| .c (.p1 10 (.pointer (some ⟨bO, 0, none⟩))) .nil
            · intro L hL6
              have e6 : lset L 6 true 6 = true := lset_at L 6 true
              have e8 : lset L 6 true 8 = L 8 := lset_ne (by decide)
              simp only [e6, e8, hL6, reduceIte, Bool.false_eq_true]
              refine ⟨.tail _ (.head _), fun p hp => ?_⟩
              rcases List.mem_cons.1 hp with rfl | hp
              · exact ⟨.head _, nOG.out⟩
              · exact ⟨.tail _ (.tail _ hp), hKKg.out p hp⟩
            · intro L p hp
              cases h6 : L 6 with
              | true =>
                simp only [h6, reduceIte] at hp
                exact hKKO.out p hp
              | false =>
                simp only [h6, reduceIte, Bool.false_eq_true] at hp
                rcases List.mem_cons.1 hp with rfl | hp
                · exact Ne.symm nOG.out
                · exact hKKO.out p hp
            · intro L hL8
              have e8 : lset L 8 true 8 = true := lset_at L 8 true
              simp only [e8, hL8, reduceIte, Bool.false_eq_true]
              rfl
            · intro L
              cases L 8 <;> exact (by decide : 0 < 3)
          · intro vs V hJ hf
            simp only [List.take_succ_cons, List.take_zero, List.drop_succ_cons, List.drop_zero, putL, Lv.val, Act.put, List.setIfInBounds_toArray, List.set_cons_succ, List.set_cons_zero]
            have bAll : Hid (Bys (X ++ x)) := fun z hz => (List.mem_append.1 hz).elim (hBX.out z) (hBx.out z)
            have hO6 : OwnBytes V w.heap.size (vs 6) (X ++ x) := hJ.ow 6 _ rfl rfl
            obtain ⟨a6, c6, e6, -⟩ := OwnBytes.form hO6 bAll.out
            obtain ⟨Y, HY⟩ : ∃ Y, Hid (X ++ x = Y) := ⟨_, rfl⟩
            rw [HY.out] at hO6 e6 bAll
            rw [e6] at hO6
            have hYl : Hid (0 < Y.length ∧ Y.length ≤ 32768) := by show _ ∧ _; rw [← HY.out, List.length_append]; have := hXl.out; omega
            obtain ⟨g6, cur6, rfl, -, hg6, hOg6, hRow6⟩ := hO6.rowB hYl.out.1
            have hK2 : Kp ((bO, (wkv (q2 : Int) (.slice (some ⟨g, 0, none⟩) X.length cap2) false), 53) :: KK) w V := hJ.kp
            have n6O : g6 ≠ bO := own_ne hOg6 (hK2.at bO (wkv (q2 : Int) (.slice (some ⟨g, 0, none⟩) X.length cap2) false) 53 (.head _)) (by decide)
            have n6 : ∀ p ∈ (KK : List (Nat × Array Value × TypeId)), p.1 ≠ g6 := fun p hp => (hJ.fr 6 rfl rfl g6 (by rw [e6]; exact .head _)).2.2 p (.tail _ hp)
            have hK3 := kp_set1 (o := 1) hK2 hKKO.out hbO.out (.slice (some ⟨g6, 0, none⟩) Y.length c6)
            have hOg7 := hOg6.setCell_other (p := ⟨bO, 1, none⟩) (by exact Ne.symm n6O) (.slice (some ⟨g6, 0, none⟩) Y.length c6)
            have hK4 := Kp.cons hK3 hOg7
            refine wpList_store_one (by rfl) 24 (.tmp 188) (.tmp 186) (by rfl) bO 1 (.slice (some ⟨g6, 0, none⟩) Y.length c6) (by rfl) (by exact e6) (hK2.at bO (wkv (q2 : Int) (.slice (some ⟨g, 0, none⟩) X.length cap2) false) 53 (.head _)) (show 1 < 3 by decide) one_bytes (by rfl) (by rfl) ?_
            have hrel2 : Hid (runs (item d) (i + 1) (l.drop (q + 1)) = some (xs ++ [x], l.drop q2)) := runs_snoc hruns.out hx.out
            have hY2 : Hid (Y = hd 5 n ++ (xs ++ [x]).flatten) := by show _ = _; rw [← HY.out, hX.out, List.flatten_append, List.append_assoc]; simp
            have hK5 := HKK.out
            subst hK5
            go_wp2_with fail
            go_roundw
            case rel => exact ⟨i + 1, q2, g6, c6, cur6, xs ++ [x], Y, E, hlt, by go_num, hq2, hrel2, hY2, bAll, hYl, hRow6, hg6, kp_sub hK4 (by
              intro p hp
              simp only [List.mem_cons, List.not_mem_nil, or_false] at hp ⊢
              rcases hp with h | h | h | h | h | h <;> simp [h, wkv]), hku2, show _ ∧ _ from ⟨n6 _ hEm.out, hKKO.out _ hEm.out⟩, .inr ⟨gl, curl, capl, key, by omega, by show _ = _; rw [show (i + 1 - 1) / 2 * 2 = (i - 1) / 2 * 2 by omega, hkey.out]; have : (i - 1) / 2 * 2 < xs.length := (by rw [hxsl.out]; omega); simp [List.getD, List.getElem?_append_left this], hEe, rfl, hRl, hBl⟩⟩
            case measure => simp [intOf]; omega
    · have eN : i = (2 * n) := by omega
      subst eN
      have hneg : ¬ ((2 * n : Nat) : Int) < 2 * (n : Int) := by omega
      have nGR : g ≠ bR := own_ne (hK.at g cur 5 (.tail _ (.head _))) (hK.at bR (wkv 0 (.slice none 0 0) false) 53 (.tail _ (.tail _ (.tail _ (.tail _ (.tail _ (.head _))))))) (by decide)
      have hI : Hid (I = some (X, l.drop q1)) := by
        show _ = _
        rw [← HI.out, itemL_all hruns.out (show _ = howMany 6 ((n : Int).toNat) by rw [Int.toNat_natCast]; unfold howMany; rw [if_neg (by decide)]) (fun _ => hKU.out), hX.out]
        rfl
      have hat : Hid ((l.length : Int) - ((l.drop q1).length : Int) = (q1 : Int)) := by show _ = _; rw [List.length_drop]; omega
      have hOX := hRow.out.own hgb.out (hK.at g cur 5 (.tail _ (.head _)))
      clear cO0 cO1 cO2
      go_upto_region 39 with fail
      go_wp2_with (first
        | refine wpList_load_own (by rfl) 53 (.tmp 10) (by rfl) bO (by rfl) (wkv (q1 : Int) (.slice (some ⟨g, 0, none⟩) X.length cap2) false) _ (hK.at bO (wkv (q1 : Int) (.slice (some ⟨g, 0, none⟩) X.length cap2) false) 53 (.head _)) Tryd.underlying53 (by rfl) (walk_info _ _ _) ?_
        | refine wpList_store_own (op := { dst := none, op := _, type := _, pos := _, after := _, guard := _ }) rfl 53 (.tmp 6) (.tmp 189) rfl bR 0 (wkv (q1 : Int) (.slice (some ⟨g, 0, none⟩) X.length cap2) false) (by rfl) (by rfl) (hK.at bR (wkv 0 (.slice none 0 0) false) 53 (.tail _ (.tail _ (.tail _ (.tail _ (.tail _ (.head _))))))) (wkv_le _ _ _ _ _ _) (walk_info _ _ _) (wkv_one _ _ _ _ _) (by rfl) ?_)
      refine bodyPost_ret (results_walk Tryd.results23 _ _ bR (q1 : Int) (.slice (some ⟨g, 0, none⟩) X.length cap2) false (by rfl) (own_setCells (hK.at bR (wkv 0 (.slice none 0 0) false) 53 (.tail _ (.tail _ (.tail _ (.tail _ (.tail _ (.head _))))))) rfl)) rfl ⟨.inr ⟨X, l.drop q1, some ⟨g, 0, none⟩, cap2, hI.out, by rw [List.length_drop]; omega, by rw [hat.out], own_apart hOX (grown_setCellsQ bR _ 0 _) (fun g' hg' e => nGR ((show g' = g by simpa [blks] using hg').symm.trans e)), hBX.out, by have := hXl.out; omega⟩, Below.setCells _ _ _ _ (by rw [HbR.out]; exact Nat.le_refl _) hK.2⟩
end Go.Proofs.YtaabcllghniaoabDoor
