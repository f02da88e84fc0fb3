/- The page's items: numbers, bytes, texts, what is none. -/
import Derived.Test.YtaabcllghniaoabDoorCG
import Derived.Test.YtaabcllghniaoabDoorCM
import Derived.Test.YtaabcllghniaoabDoorCM2
import Derived.Test.YtaabcllghniaoabDoorCU
import Derived.Test.YtaabcllghniaoabDoorHB2
import Derived.Test.YtaabcllghniaoabDoorRK
namespace Go.Proofs.YtaabcllghniaoabDoor
open Go Go.RowKit
/-- What the page knows of an item. -/
def wkv (at_ : Int) (v : Value) (bad : Bool) : Array Value := #[.int .i64 at_, v, .bool bad]
/-- A token, as a variable holds it. -/
def tkv (k n : Int) (v : Value) : Array Value := #[.int .i64 k, .int .i64 n, v]
/-- What the page tells of an item that begins at a place. -/
def ItemSaid (w w' : World) (n : Nat) (o : Option (List Int × List Tk)) (e : Ending) : Prop :=
  (e = .returned (.agg (wkv 0 (.slice none 0 0) true)) ∧ (o = none ∨ ∃ x r, o = some (x, r) ∧ 32768 < x.length)) ∨
  ∃ x r a c, o = some (x, r) ∧ r.length ≤ n ∧ e = .returned (.agg (wkv ((n : Int) - (r.length : Int)) (.slice a x.length c) false)) ∧ OwnBytes w' w.heap.size (.slice a x.length c) x ∧ Bys x ∧ x.length ≤ 200000
theorem walk_info (a : Int) (v : Value) (b : Bool) : (Tryd.prog.info? 53).map (·.size) = some (wkv a v b).size := by
  have : (Tryd.prog.info? 53).map (·.size) = some 3 := by kernel_rfl
  exact this
theorem wkv_le (a a' : Int) (v v' : Value) (b b' : Bool) : 0 + (wkv a v b).size ≤ (wkv a' v' b').size := Nat.le_refl 3
theorem wkv_one (a : Int) (x : Option Addr) (n c : Nat) (b : Bool) : (wkv a (.slice x n c) b).all (·.oneCell') = true := by
  unfold wkv
  rw [Array.all_eq_true']
  intro v hv
  simp at hv
  rcases hv with rfl | rfl | rfl <;> rfl
theorem run_build_walk {ρ : Operand → Value} {o : Oper} (s u : Nat) (ho : o.op = .build 53 #[(0, .tmp s), (1, .tmp u)]) {x : Int} {a : Option Addr} {n c : Nat} (hs : ρ (.tmp s) = .int .i64 x) (hu : ρ (.tmp u) = .slice a n c) (w : World) : (execOp ρ o).run Tryd.prog w = .ok (.value (.agg (wkv x (.slice a n c) false))) w := by
  unfold execOp
  rw [ho]
  go_simp
  rfl
theorem results_walk {fn : Func} {p : Tmp} (h : fn.results = #[.cell p 53]) (tmps : Array Value) (w : World) (b : Nat) (a : Int) (v : Value) (bad : Bool) (hp : tmps.getD p undef = .pointer (some ⟨b, 0, none⟩)) (ho : Own w b (wkv a v bad) 53) : (results fn tmps).run Tryd.prog w = .ok (.agg (wkv a v bad)) w :=
  results_own h tmps w b (wkv a v bad) _ hp ho Tryd.underlying53 rfl (walk_info _ _ _)
set_option maxRecDepth 100000 in
set_option maxHeartbeats 1000000 in
theorem pitem_end {a : Option Addr} {cap : Nat} {l : List Tk} {w : World} (hl : Light l) (q : Nat) (hq : q = l.length) (D : Int) : Calls Tryd.prog 23 #[.slice a l.length cap, .int .i64 q, .int .i64 D] w fun e w' => e = .returned (.agg (wkv 0 (.slice none 0 0) true)) ∧ Below w.heap.size w w' := by
  have hlen : (l.length : Int) ≤ 1000 := by have := hl.1; omega
  subst hq
  go_enter Tryd.func23, Tryd.ntmps23
  go_upto_region 2 with fail
  have hK := ((Kp.nil w).alloc (wkv 0 (.slice none 0 0) false) 53).alloc (wkv 0 (.slice none 0 0) true) 53
  rw [World.size_alloc] at hK
  rw [show (w.alloc (.cells #[.int .i64 0, .slice none 0 0, .bool false] 53)).alloc (.cells #[.int .i64 0, .slice none 0 0, .bool true] 53) = (w.alloc (.cells (wkv 0 (.slice none 0 0) false) 53)).alloc (.cells (wkv 0 (.slice none 0 0) true) 53) from rfl]
  generalize (w.alloc (.cells (wkv 0 (.slice none 0 0) false) 53)).alloc (.cells (wkv 0 (.slice none 0 0) true) 53) = W at *
  obtain ⟨bR, HbR⟩ : ∃ b, Hid (w.heap.size = b) := ⟨_, rfl⟩
  obtain ⟨bN, HbN⟩ : ∃ b, Hid (bR + 1 = b) := ⟨_, rfl⟩
  rw [HbR.out, HbN.out] at hK ⊢
  go_upto_region 3 with fail
  go_wp2_with (first
    | refine wpList_load_own (by rfl) 53 (.tmp 7) (by rfl) bN (by rfl) (wkv 0 (.slice none 0 0) true) _ (hK.at bN (wkv 0 (.slice none 0 0) true) 53 (.head _)) Tryd.underlying53 (by rfl) (walk_info _ _ _) ?_
    | refine wpList_store_own (op := { dst := none, op := _, type := _, pos := _, after := _, guard := _ }) rfl 53 (.tmp 6) (.tmp 19) rfl bR 0 (wkv 0 (.slice none 0 0) true) (by rfl) (by rfl) (hK.at bR (wkv 0 (.slice none 0 0) false) 53 (.tail _ (.head _))) (wkv_le _ _ _ _ _ _) (walk_info _ _ _) (wkv_one _ _ _ _ _) (by rfl) ?_)
  refine bodyPost_ret (results_walk Tryd.results23 _ _ bR 0 (.slice none 0 0) true (by rfl) (own_setCells (hK.at bR (wkv 0 (.slice none 0 0) false) 53 (.tail _ (.head _))) rfl)) rfl ⟨rfl, Below.setCells _ _ _ _ (by rw [HbR.out]; exact Nat.le_refl _) hK.2⟩
set_option maxRecDepth 100000 in
set_option maxHeartbeats 1000000 in
theorem pitem_shape {a : Option Addr} {cap : Nat} {l : List Tk} {w : World} (hm : Toks w a cap l) (hl : Light l) (q : Nat) {k n : Int} {bb : List Int} (ht : l[q]? = some ⟨k, n, bb⟩) (D : Int) (h : ((k = 3 ∨ k = 4) ∧ n ≠ 0) ∨ (¬ (k = 3 ∨ k = 4) ∧ 0 < bb.length) ∨ n < 0) : Calls Tryd.prog 23 #[.slice a l.length cap, .int .i64 q, .int .i64 D] w fun e w' => e = .returned (.agg (wkv 0 (.slice none 0 0) true)) ∧ Below w.heap.size w w' := by
  have hlen : (l.length : Int) ≤ 1000 := by have := hl.1; omega
  have hq := (List.getElem?_eq_some_iff.1 ht).1
  have hq' : (q : Int) < (l.length : Int) := by omega
  have hq0 : (0 : Int) ≤ (q : Int) := by omega
  obtain ⟨b, off, rfl, hat⟩ := hm.1.at ht
  have hlt : bb.length ≤ 100000 := hl.2 _ (List.mem_of_getElem? ht)
  have hlt' : (bb.length : Int) ≤ 100000 := by omega
  go_enter Tryd.func23, Tryd.ntmps23
  go_upto_region 2 with fail
  have hK := ((Kp.nil w).alloc (wkv 0 (.slice none 0 0) false) 53).alloc (wkv 0 (.slice none 0 0) true) 53
  rw [World.size_alloc] at hK
  rw [show (w.alloc (.cells #[.int .i64 0, .slice none 0 0, .bool false] 53)).alloc (.cells #[.int .i64 0, .slice none 0 0, .bool true] 53) = (w.alloc (.cells (wkv 0 (.slice none 0 0) false) 53)).alloc (.cells (wkv 0 (.slice none 0 0) true) 53) from rfl]
  generalize (w.alloc (.cells (wkv 0 (.slice none 0 0) false) 53)).alloc (.cells (wkv 0 (.slice none 0 0) true) 53) = W at *
  obtain ⟨bR, HbR⟩ : ∃ b, Hid (w.heap.size = b) := ⟨_, rfl⟩
  obtain ⟨bN, HbN⟩ : ∃ b, Hid (bR + 1 = b) := ⟨_, rfl⟩
  rw [HbR.out, HbN.out] at hK ⊢
  obtain ⟨d1, d2, _, d3, ⟨ta, tc, rfl, htw⟩, -⟩ := hat
  have hbl := World.block_lt_of_cell? w _ d1
  have c1 := (hK.2.cell (p := ⟨b, off + q * 3, none⟩) hbl).trans d1
  have c2 := (hK.2.cell (p := ⟨b, off + q * 3 + 1, none⟩) hbl).trans d2
  have c3 := (hK.2.cell (p := ⟨b, off + q * 3 + 2, none⟩) hbl).trans d3
  clear d1 d2 d3
  go_upto_region 5 with fail
  have hlR := (hK.at bR (wkv 0 (.slice none 0 0) false) 53 (.tail _ (.head _))).lt
  have hlN := (hK.at bN (wkv 0 (.slice none 0 0) true) 53 (.head _)).lt
  have hK := hK.alloc (tkv k n (.slice ta bb.length tc)) 30
  rw [show W.alloc (.cells #[.int .i64 k, .int .i64 n, .slice ta bb.length tc] 30) = W.alloc (.cells (tkv k n (.slice ta bb.length tc)) 30) from rfl]
  generalize W.alloc (.cells (tkv k n (.slice ta bb.length tc)) 30) = W1 at *
  have htb : Txt W1 ta tc bb := htw.below hK.2
  obtain ⟨bT, HbT⟩ : ∃ b, Hid (W.heap.size = b) := ⟨_, rfl⟩
  rw [HbT.out] at hK hlR hlN ⊢
  clear c1 c2 c3
  obtain ⟨c1, c2, c3⟩ := own_three (hK.at bT (tkv k n (.slice ta bb.length tc)) 30 (.head _))
  replace hlR := show Hid _ from hlR
  replace hlN := show Hid _ from hlN
  have hcase : (k = 3 ∧ n ≠ 0) ∨ (k = 4 ∧ n ≠ 0) ∨ (k ≠ 3 ∧ k ≠ 4 ∧ 0 < bb.length) ∨ (k ≠ 3 ∧ k ≠ 4 ∧ ¬ 0 < bb.length ∧ n < 0) := by omega
  clear h
  rcases hcase with ⟨rfl, h0⟩ | ⟨rfl, h0⟩ | ⟨h3, h4, h0⟩ | ⟨h3, h4, h5, h0⟩
  · have h1 : (n == 0) = false := beq_eq_false_iff_ne.2 h0
    have h2 : (n != 0) = true := by rw [bne, h1]; rfl
    go_upto_region 6 with fail
    go_wp2_with (first
      | refine wpList_load_own (by rfl) 53 (.tmp 7) (by rfl) bN (by rfl) (wkv 0 (.slice none 0 0) true) _ (hK.at bN (wkv 0 (.slice none 0 0) true) 53 (.tail _ (.head _))) Tryd.underlying53 (by rfl) (walk_info _ _ _) ?_
      | refine wpList_store_own (op := { dst := none, op := _, type := _, pos := _, after := _, guard := _ }) rfl 53 (.tmp 6) (.tmp 58) rfl bR 0 (wkv 0 (.slice none 0 0) true) (by rfl) (by rfl) (hK.at bR (wkv 0 (.slice none 0 0) false) 53 (.tail _ (.tail _ (.head _)))) (wkv_le _ _ _ _ _ _) (walk_info _ _ _) (wkv_one _ _ _ _ _) (by rfl) ?_)
    refine bodyPost_ret (results_walk Tryd.results23 _ _ bR 0 (.slice none 0 0) true (by rfl) (own_setCells (hK.at bR (wkv 0 (.slice none 0 0) false) 53 (.tail _ (.tail _ (.head _)))) rfl)) rfl ⟨rfl, Below.setCells _ _ _ _ (by rw [HbR.out]; exact Nat.le_refl _) hK.2⟩
  · have h1 : (n == 0) = false := beq_eq_false_iff_ne.2 h0
    have h2 : (n != 0) = true := by rw [bne, h1]; rfl
    go_upto_region 6 with fail
    go_wp2_with (first
      | refine wpList_load_own (by rfl) 53 (.tmp 7) (by rfl) bN (by rfl) (wkv 0 (.slice none 0 0) true) _ (hK.at bN (wkv 0 (.slice none 0 0) true) 53 (.tail _ (.head _))) Tryd.underlying53 (by rfl) (walk_info _ _ _) ?_
      | refine wpList_store_own (op := { dst := none, op := _, type := _, pos := _, after := _, guard := _ }) rfl 53 (.tmp 6) (.tmp 58) rfl bR 0 (wkv 0 (.slice none 0 0) true) (by rfl) (by rfl) (hK.at bR (wkv 0 (.slice none 0 0) false) 53 (.tail _ (.tail _ (.head _)))) (wkv_le _ _ _ _ _ _) (walk_info _ _ _) (wkv_one _ _ _ _ _) (by rfl) ?_)
    refine bodyPost_ret (results_walk Tryd.results23 _ _ bR 0 (.slice none 0 0) true (by rfl) (own_setCells (hK.at bR (wkv 0 (.slice none 0 0) false) 53 (.tail _ (.tail _ (.head _)))) rfl)) rfl ⟨rfl, Below.setCells _ _ _ _ (by rw [HbR.out]; exact Nat.le_refl _) hK.2⟩
  · have h1 : (k == 3) = false := beq_eq_false_iff_ne.2 h3
    have h2 : (k == 4) = false := beq_eq_false_iff_ne.2 h4
    have h1' : (k != 3) = true := by rw [bne, h1]; rfl
    have h2' : (k != 4) = true := by rw [bne, h2]; rfl
    have h0' : (0 : Int) < (bb.length : Int) := by omega
    go_upto_region 6 with fail
    go_wp2_with (first
      | refine wpList_load_own (by rfl) 53 (.tmp 7) (by rfl) bN (by rfl) (wkv 0 (.slice none 0 0) true) _ (hK.at bN (wkv 0 (.slice none 0 0) true) 53 (.tail _ (.head _))) Tryd.underlying53 (by rfl) (walk_info _ _ _) ?_
      | refine wpList_store_own (op := { dst := none, op := _, type := _, pos := _, after := _, guard := _ }) rfl 53 (.tmp 6) (.tmp 58) rfl bR 0 (wkv 0 (.slice none 0 0) true) (by rfl) (by rfl) (hK.at bR (wkv 0 (.slice none 0 0) false) 53 (.tail _ (.tail _ (.head _)))) (wkv_le _ _ _ _ _ _) (walk_info _ _ _) (wkv_one _ _ _ _ _) (by rfl) ?_)
    refine bodyPost_ret (results_walk Tryd.results23 _ _ bR 0 (.slice none 0 0) true (by rfl) (own_setCells (hK.at bR (wkv 0 (.slice none 0 0) false) 53 (.tail _ (.tail _ (.head _)))) rfl)) rfl ⟨rfl, Below.setCells _ _ _ _ (by rw [HbR.out]; exact Nat.le_refl _) hK.2⟩
  · have h1 : (k == 3) = false := beq_eq_false_iff_ne.2 h3
    have h2 : (k == 4) = false := beq_eq_false_iff_ne.2 h4
    have h1' : (k != 3) = true := by rw [bne, h1]; rfl
    have h2' : (k != 4) = true := by rw [bne, h2]; rfl
    have h0' : ¬ (0 : Int) < (bb.length : Int) := by omega
    go_upto_region 6 with fail
    go_wp2_with (first
      | refine wpList_load_own (by rfl) 53 (.tmp 7) (by rfl) bN (by rfl) (wkv 0 (.slice none 0 0) true) _ (hK.at bN (wkv 0 (.slice none 0 0) true) 53 (.tail _ (.head _))) Tryd.underlying53 (by rfl) (walk_info _ _ _) ?_
      | refine wpList_store_own (op := { dst := none, op := _, type := _, pos := _, after := _, guard := _ }) rfl 53 (.tmp 6) (.tmp 58) rfl bR 0 (wkv 0 (.slice none 0 0) true) (by rfl) (by rfl) (hK.at bR (wkv 0 (.slice none 0 0) false) 53 (.tail _ (.tail _ (.head _)))) (wkv_le _ _ _ _ _ _) (walk_info _ _ _) (wkv_one _ _ _ _ _) (by rfl) ?_)
    refine bodyPost_ret (results_walk Tryd.results23 _ _ bR 0 (.slice none 0 0) true (by rfl) (own_setCells (hK.at bR (wkv 0 (.slice none 0 0) false) 53 (.tail _ (.tail _ (.head _)))) rfl)) rfl ⟨rfl, Below.setCells _ _ _ _ (by rw [HbR.out]; exact Nat.le_refl _) hK.2⟩
set_option maxRecDepth 100000 in
set_option maxHeartbeats 1000000 in
theorem pitem_int {a : Option Addr} {cap : Nat} {l : List Tk} {w : World} (hm : Toks w a cap l) (hl : Light l) (q : Nat) {n : Nat} (hn : n < 9223372036854775808) (ht : l[q]? = some ⟨1, n, []⟩) (D : Int) : Calls Tryd.prog 23 #[.slice a l.length cap, .int .i64 q, .int .i64 D] w fun e w' => ∃ a' c', e = .returned (.agg (wkv ((q : Int) + 1) (.slice a' (1 + hsize n) c') false)) ∧ OwnBytes w' w.heap.size (.slice a' (1 + hsize n) c') (hd 0 n) ∧ Below w.heap.size w w' := by
  have hlen : (l.length : Int) ≤ 1000 := by have := hl.1; omega
  have hq := (List.getElem?_eq_some_iff.1 ht).1
  have hq' : (q : Int) < (l.length : Int) := by omega
  have hq0 : (0 : Int) ≤ (q : Int) := by omega
  obtain ⟨b, off, rfl, hat⟩ := hm.1.at ht
  have hn0 : ¬ (n : Int) < 0 := by omega
  have hn' := show Hid _ from hn
  clear hn
  go_enter Tryd.func23, Tryd.ntmps23
  go_upto_region 2 with fail
  have hK := ((Kp.nil w).alloc (wkv 0 (.slice none 0 0) false) 53).alloc (wkv 0 (.slice none 0 0) true) 53
  rw [World.size_alloc] at hK
  rw [show (w.alloc (.cells #[.int .i64 0, .slice none 0 0, .bool false] 53)).alloc (.cells #[.int .i64 0, .slice none 0 0, .bool true] 53) = (w.alloc (.cells (wkv 0 (.slice none 0 0) false) 53)).alloc (.cells (wkv 0 (.slice none 0 0) true) 53) from rfl]
  generalize (w.alloc (.cells (wkv 0 (.slice none 0 0) false) 53)).alloc (.cells (wkv 0 (.slice none 0 0) true) 53) = W at *
  obtain ⟨bR, HbR⟩ : ∃ b, Hid (w.heap.size = b) := ⟨_, rfl⟩
  obtain ⟨bN, HbN⟩ : ∃ b, Hid (bR + 1 = b) := ⟨_, rfl⟩
  rw [HbR.out, HbN.out] at hK ⊢
  obtain ⟨d1, d2, _, d3, ⟨ta, tc, rfl, htw⟩, -⟩ := hat
  have hbl := World.block_lt_of_cell? w _ d1
  have c1 := (hK.2.cell (p := ⟨b, off + q * 3, none⟩) hbl).trans d1
  have c2 := (hK.2.cell (p := ⟨b, off + q * 3 + 1, none⟩) hbl).trans d2
  have c3 := (hK.2.cell (p := ⟨b, off + q * 3 + 2, none⟩) hbl).trans d3
  clear d1 d2 d3
  simp only [List.length_nil] at c3
  go_upto_region 5 with fail
  have hlR := (hK.at bR (wkv 0 (.slice none 0 0) false) 53 (.tail _ (.head _))).lt
  have hlN := (hK.at bN (wkv 0 (.slice none 0 0) true) 53 (.head _)).lt
  have hK := hK.alloc (tkv 1 n (.slice ta 0 tc)) 30
  rw [show W.alloc (.cells #[.int .i64 1, .int .i64 n, .slice ta 0 tc] 30) = W.alloc (.cells (tkv 1 n (.slice ta 0 tc)) 30) from rfl]
  generalize W.alloc (.cells (tkv 1 n (.slice ta 0 tc)) 30) = W1 at *
  have htb : Txt W1 ta tc [] := htw.below hK.2
  obtain ⟨bT, HbT⟩ : ∃ b, Hid (W.heap.size = b) := ⟨_, rfl⟩
  rw [HbT.out] at hK hlR hlN ⊢
  clear c1 c2 c3
  obtain ⟨c1, c2, c3⟩ := own_three (hK.at bT (tkv 1 n (.slice ta 0 tc)) 30 (.head _))
  replace hlR := show Hid _ from hlR
  replace hlN := show Hid _ from hlN
  go_upto_region 9 with fail
  go_wp2_with fail
  refine (phead_is 0 n (by decide) hn'.out _).mono ?_
  rintro e w2 ⟨a2, c2', rfl, hO, hb2⟩
  have hbW : Hid (w.heap.size ≤ W1.heap.size) := hK.2.size
  have hlR : Hid (bR < W1.heap.size) := (hK.at bR (wkv 0 (.slice none 0 0) false) 53 (.tail _ (.tail _ (.head _)))).lt
  have hK := hK.below hb2
  go_wp2_with (refine wpList_store_own (op := { dst := none, op := _, type := _, pos := _, after := _, guard := _ }) rfl 53 (.tmp 6) (.tmp 68) rfl bR 0 (wkv ((q : Int) + 1) (.slice a2 (1 + hsize n) c2') false) (by rfl) (by rfl) (hK.at bR (wkv 0 (.slice none 0 0) false) 53 (.tail _ (.tail _ (.head _)))) (wkv_le _ _ _ _ _ _) (walk_info _ _ _) (wkv_one _ _ _ _ _) (by rfl) ?_)
  refine bodyPost_ret (results_walk Tryd.results23 _ _ bR ((q : Int) + 1) (.slice a2 (1 + hsize n) c2') false (by rfl) (own_setCells (hK.at bR (wkv 0 (.slice none 0 0) false) 53 (.tail _ (.tail _ (.head _)))) rfl)) rfl ⟨a2, c2', rfl, own_low (hO.grown (grown_setCellsQ bR _ 0 _) hlR.out) hbW.out, Below.setCells _ _ _ _ (by rw [HbR.out]; exact Nat.le_refl _) hK.2⟩
set_option maxRecDepth 100000 in
set_option maxHeartbeats 1000000 in
theorem pitem_neg {a : Option Addr} {cap : Nat} {l : List Tk} {w : World} (hm : Toks w a cap l) (hl : Light l) (q : Nat) {n : Nat} (hn : n < 9223372036854775808) (ht : l[q]? = some ⟨2, n, []⟩) (D : Int) : Calls Tryd.prog 23 #[.slice a l.length cap, .int .i64 q, .int .i64 D] w fun e w' => ∃ a' c', e = .returned (.agg (wkv ((q : Int) + 1) (.slice a' (1 + hsize n) c') false)) ∧ OwnBytes w' w.heap.size (.slice a' (1 + hsize n) c') (hd 1 n) ∧ Below w.heap.size w w' := by
  have hlen : (l.length : Int) ≤ 1000 := by have := hl.1; omega
  have hq := (List.getElem?_eq_some_iff.1 ht).1
  have hq' : (q : Int) < (l.length : Int) := by omega
  have hq0 : (0 : Int) ≤ (q : Int) := by omega
  obtain ⟨b, off, rfl, hat⟩ := hm.1.at ht
  have hn0 : ¬ (n : Int) < 0 := by omega
  have hn' := show Hid _ from hn
  clear hn
  go_enter Tryd.func23, Tryd.ntmps23
  go_upto_region 2 with fail
  have hK := ((Kp.nil w).alloc (wkv 0 (.slice none 0 0) false) 53).alloc (wkv 0 (.slice none 0 0) true) 53
  rw [World.size_alloc] at hK
  rw [show (w.alloc (.cells #[.int .i64 0, .slice none 0 0, .bool false] 53)).alloc (.cells #[.int .i64 0, .slice none 0 0, .bool true] 53) = (w.alloc (.cells (wkv 0 (.slice none 0 0) false) 53)).alloc (.cells (wkv 0 (.slice none 0 0) true) 53) from rfl]
  generalize (w.alloc (.cells (wkv 0 (.slice none 0 0) false) 53)).alloc (.cells (wkv 0 (.slice none 0 0) true) 53) = W at *
  obtain ⟨bR, HbR⟩ : ∃ b, Hid (w.heap.size = b) := ⟨_, rfl⟩
  obtain ⟨bN, HbN⟩ : ∃ b, Hid (bR + 1 = b) := ⟨_, rfl⟩
  rw [HbR.out, HbN.out] at hK ⊢
  obtain ⟨d1, d2, _, d3, ⟨ta, tc, rfl, htw⟩, -⟩ := hat
  have hbl := World.block_lt_of_cell? w _ d1
  have c1 := (hK.2.cell (p := ⟨b, off + q * 3, none⟩) hbl).trans d1
  have c2 := (hK.2.cell (p := ⟨b, off + q * 3 + 1, none⟩) hbl).trans d2
  have c3 := (hK.2.cell (p := ⟨b, off + q * 3 + 2, none⟩) hbl).trans d3
  clear d1 d2 d3
  simp only [List.length_nil] at c3
  go_upto_region 5 with fail
  have hlR := (hK.at bR (wkv 0 (.slice none 0 0) false) 53 (.tail _ (.head _))).lt
  have hlN := (hK.at bN (wkv 0 (.slice none 0 0) true) 53 (.head _)).lt
  have hK := hK.alloc (tkv 2 n (.slice ta 0 tc)) 30
  rw [show W.alloc (.cells #[.int .i64 2, .int .i64 n, .slice ta 0 tc] 30) = W.alloc (.cells (tkv 2 n (.slice ta 0 tc)) 30) from rfl]
  generalize W.alloc (.cells (tkv 2 n (.slice ta 0 tc)) 30) = W1 at *
  have htb : Txt W1 ta tc [] := htw.below hK.2
  obtain ⟨bT, HbT⟩ : ∃ b, Hid (W.heap.size = b) := ⟨_, rfl⟩
  rw [HbT.out] at hK hlR hlN ⊢
  clear c1 c2 c3
  obtain ⟨c1, c2, c3⟩ := own_three (hK.at bT (tkv 2 n (.slice ta 0 tc)) 30 (.head _))
  replace hlR := show Hid _ from hlR
  replace hlN := show Hid _ from hlN
  go_upto_region 11 with fail
  go_wp2_with fail
  refine (phead_is 1 n (by decide) hn'.out _).mono ?_
  rintro e w2 ⟨a2, c2', rfl, hO, hb2⟩
  have hbW : Hid (w.heap.size ≤ W1.heap.size) := hK.2.size
  have hlR : Hid (bR < W1.heap.size) := (hK.at bR (wkv 0 (.slice none 0 0) false) 53 (.tail _ (.tail _ (.head _)))).lt
  have hK := hK.below hb2
  go_wp2_with (refine wpList_store_own (op := { dst := none, op := _, type := _, pos := _, after := _, guard := _ }) rfl 53 (.tmp 6) (.tmp 76) rfl bR 0 (wkv ((q : Int) + 1) (.slice a2 (1 + hsize n) c2') false) (by rfl) (by rfl) (hK.at bR (wkv 0 (.slice none 0 0) false) 53 (.tail _ (.tail _ (.head _)))) (wkv_le _ _ _ _ _ _) (walk_info _ _ _) (wkv_one _ _ _ _ _) (by rfl) ?_)
  refine bodyPost_ret (results_walk Tryd.results23 _ _ bR ((q : Int) + 1) (.slice a2 (1 + hsize n) c2') false (by rfl) (own_setCells (hK.at bR (wkv 0 (.slice none 0 0) false) 53 (.tail _ (.tail _ (.head _)))) rfl)) rfl ⟨a2, c2', rfl, own_low (hO.grown (grown_setCellsQ bR _ 0 _) hlR.out) hbW.out, Below.setCells _ _ _ _ (by rw [HbR.out]; exact Nat.le_refl _) hK.2⟩
set_option maxRecDepth 100000 in
set_option maxHeartbeats 2000000 in
theorem pitem_bytes {a : Option Addr} {cap : Nat} {l : List Tk} {w : World} (hm : Toks w a cap l) (hl : Light l) (q : Nat) {bb : List Int} (ht : l[q]? = some ⟨3, 0, bb⟩) (D : Int) : Calls Tryd.prog 23 #[.slice a l.length cap, .int .i64 q, .int .i64 D] w fun e w' => ∃ a' c', e = .returned (.agg (wkv ((q : Int) + 1) (.slice a' ((hd 2 bb.length).length + bb.length) c') false)) ∧ OwnBytes w' w.heap.size (.slice a' ((hd 2 bb.length).length + bb.length) c') (hd 2 bb.length ++ bb) ∧ Below w.heap.size w w' := by
  have hlen : (l.length : Int) ≤ 1000 := by have := hl.1; omega
  have hq := (List.getElem?_eq_some_iff.1 ht).1
  have hq' : (q : Int) < (l.length : Int) := by omega
  have hq0 : (0 : Int) ≤ (q : Int) := by omega
  obtain ⟨b, off, rfl, hat⟩ := hm.1.at ht
  have hlt : bb.length ≤ 100000 := hl.2 _ (List.mem_of_getElem? ht)
  have hlt' : (bb.length : Int) ≤ 100000 := by omega
  go_enter Tryd.func23, Tryd.ntmps23
  go_upto_region 2 with fail
  have hK := ((Kp.nil w).alloc (wkv 0 (.slice none 0 0) false) 53).alloc (wkv 0 (.slice none 0 0) true) 53
  rw [World.size_alloc] at hK
  rw [show (w.alloc (.cells #[.int .i64 0, .slice none 0 0, .bool false] 53)).alloc (.cells #[.int .i64 0, .slice none 0 0, .bool true] 53) = (w.alloc (.cells (wkv 0 (.slice none 0 0) false) 53)).alloc (.cells (wkv 0 (.slice none 0 0) true) 53) from rfl]
  generalize (w.alloc (.cells (wkv 0 (.slice none 0 0) false) 53)).alloc (.cells (wkv 0 (.slice none 0 0) true) 53) = W at *
  obtain ⟨bR, HbR⟩ : ∃ b, Hid (w.heap.size = b) := ⟨_, rfl⟩
  obtain ⟨bN, HbN⟩ : ∃ b, Hid (bR + 1 = b) := ⟨_, rfl⟩
  rw [HbR.out, HbN.out] at hK ⊢
  obtain ⟨d1, d2, _, d3, ⟨ta, tc, rfl, htw⟩, -⟩ := hat
  have hbl := World.block_lt_of_cell? w _ d1
  have c1 := (hK.2.cell (p := ⟨b, off + q * 3, none⟩) hbl).trans d1
  have c2 := (hK.2.cell (p := ⟨b, off + q * 3 + 1, none⟩) hbl).trans d2
  have c3 := (hK.2.cell (p := ⟨b, off + q * 3 + 2, none⟩) hbl).trans d3
  clear d1 d2 d3
  go_upto_region 5 with fail
  have hlR := (hK.at bR (wkv 0 (.slice none 0 0) false) 53 (.tail _ (.head _))).lt
  have hlN := (hK.at bN (wkv 0 (.slice none 0 0) true) 53 (.head _)).lt
  have hK := hK.alloc (tkv 3 0 (.slice ta bb.length tc)) 30
  rw [show W.alloc (.cells #[.int .i64 3, .int .i64 0, .slice ta bb.length tc] 30) = W.alloc (.cells (tkv 3 0 (.slice ta bb.length tc)) 30) from rfl]
  generalize W.alloc (.cells (tkv 3 0 (.slice ta bb.length tc)) 30) = W1 at *
  have htb : Txt W1 ta tc bb := htw.below hK.2
  obtain ⟨bT, HbT⟩ : ∃ b, Hid (W.heap.size = b) := ⟨_, rfl⟩
  rw [HbT.out] at hK hlR hlN ⊢
  clear c1 c2 c3
  obtain ⟨c1, c2, c3⟩ := own_three (hK.at bT (tkv 3 0 (.slice ta bb.length tc)) 30 (.head _))
  replace hlR := show Hid _ from hlR
  replace hlN := show Hid _ from hlN
  go_upto_region 13 with fail
  have bb8 : Bys bb := htb.1.2.2.2.1
  have bAll : Hid (Bys (hd 2 bb.length ++ bb)) := fun x hx => (List.mem_append.1 hx).elim (hd_bytes (by decide) x) (bb8 x)
  have hbW : Hid (w.heap.size ≤ W1.heap.size) := hK.2.size
  refine wp_region_lt 191 10 (fun _ => [(bT, tkv 3 0 (.slice ta bb.length tc), 30), (bN, wkv 0 (.slice none 0 0) true, 53), (bR, wkv 0 (.slice none 0 0) false, 53)])
    [.v (.int .i64 q), .v (.int .i64 ((q : Int) + 1)), .v (.pointer (some ⟨bT, 2, none⟩)), .v (.slice ta bb.length tc), .v (.int .i64 bb.length), .od (obR w.heap.size (hd 2 bb.length)) 8, .v (.pointer (some ⟨bT, 2, none⟩)), .v (.slice ta bb.length tc), .ow (obR w.heap.size (hd 2 bb.length ++ bb)), .fn 8 (fun v => .agg (wkv ((q : Int) + 1) v false))] hK (by kernel_rfl) (by kernel_rfl) (by kernel_rfl) (by rfl) (by kernel_rfl) (by kernel_rfl) ?_ ?_
  · refine .c (.p1 1 (.int .i64 q)) <| .c (.p1 79 (.int .i64 q) (h := by intro ac wc f9; have qq := getq f9; go_simp; rw [IntKind.wrap_i64]; omega)) <| .c (.p1 8 (.pointer (some ⟨bT, 0, none⟩))) <| .c (.lc bT 2 (fun _ wq hk => (own_three (hk.at bT (tkv 3 0 (.slice ta bb.length tc)) 30 (.head _))).2.2) load_bytes) <| .c (.p1 82 (.slice ta bb.length tc)) <| .c (.cd 8 (fun _ => #[.int .i64 2, .int .i64 bb.length]) ?_) <| .c (.p1 8 (.pointer (some ⟨bT, 0, none⟩))) <| .c (.lc bT 2 (fun _ wq hk => (own_three (hk.at bT (tkv 3 0 (.slice ta bb.length tc)) 30 (.head _))).2.2) load_bytes) <| .c (.ab (xs := hd 2 bb.length) (m := bb) 5 (fun _ vs wq hA => ⟨ta, tc, rfl, ?_⟩) ob_id (by rw [hd_length]; have := hsize_le bb.length; omega)) <| .c (.pj 8 ?_) .nil
    · intro _ vs wq hA
      refine (phead_is 2 bb.length (by decide) (by omega) wq).mono ?_
      rintro e w2 ⟨a2, c2', rfl, hO2, hb2⟩
      exact ⟨_, rfl, own_low hO2 hA.j.kp.2.size, (tx_own hO2 (hd_bytes (by decide))).2, hb2⟩
    · exact htw.below hA.j.kp.2
    · intro _ vs wq ac hA he
      have h1 : ac.tmps.getD 80 undef = .int .i64 ((q : Int) + 1) := (he (.tmp 80) (by simp [Op.operands])).trans (by kernel_rfl)
      have h2 : ac.tmps.getD 87 undef = vs 8 := (he (.tmp 87) (by simp [Op.operands])).trans (by kernel_rfl)
      obtain ⟨a2, c2', e2, -⟩ := OwnBytes.form (hA.own 8) bAll.out
      refine ⟨dep hA.dep 8 (by rfl), ?_⟩
      rw [e2] at h2 ⊢
      exact run_build_walk 80 87 rfl h1 h2 wq
  · intro vs V hJ hf
    simp only [List.take_succ_cons, List.take_zero, List.drop_succ_cons, List.drop_zero, putL, Lv.val, Act.put, List.setIfInBounds_toArray, List.set_cons_succ, List.set_cons_zero]
    have e9 := (hJ.al 9 8 _ rfl rfl).2
    have hO := hJ.ow 8 _ rfl rfl
    obtain ⟨a2, c2', e8, -⟩ := OwnBytes.form hO bAll.out
    have hO : OwnBytes V w.heap.size (.slice a2 (hd 2 bb.length ++ bb).length c2') (hd 2 bb.length ++ bb) := by rw [← e8]; exact hO
    obtain ⟨N, HN⟩ : ∃ N, Hid ((hd 2 bb.length).length + bb.length = N) := ⟨_, rfl⟩
    rw [List.length_append, HN.out] at e8 hO
    rw [e8] at e9
    have hne : ∀ g ∈ blks (.slice a2 N c2'), g ≠ bR := fun g hg => Ne.symm ((hJ.fr 8 rfl rfl g (by rw [e8]; exact hg)).2.2 (bR, wkv 0 (.slice none 0 0) false, 53) (.tail _ (.tail _ (.head _))))
    have hK2 := hJ.kp
    refine wpList_store_own (op := { dst := none, op := _, type := _, pos := _, after := _, guard := _ }) rfl 53 (.tmp 6) (.tmp 88) rfl bR 0 (wkv ((q : Int) + 1) (.slice a2 N c2') false) (by rfl) (by exact e9) (hK2.at bR (wkv 0 (.slice none 0 0) false) 53 (.tail _ (.tail _ (.head _)))) (wkv_le _ _ _ _ _ _) (walk_info _ _ _) (wkv_one _ _ _ _ _) (by rfl) ?_
    go_wp2_with fail
    refine bodyPost_ret (results_walk Tryd.results23 _ _ bR ((q : Int) + 1) (.slice a2 N c2') false (by rfl) (own_setCells (hK2.at bR (wkv 0 (.slice none 0 0) false) 53 (.tail _ (.tail _ (.head _)))) rfl)) rfl ⟨a2, c2', by rw [HN.out], by rw [HN.out]; exact own_apart hO (grown_setCellsQ bR _ 0 _) hne, Below.setCells _ _ _ _ (by rw [HbR.out]; exact Nat.le_refl _) hK2.2⟩
set_option maxRecDepth 100000 in
set_option maxHeartbeats 2000000 in
theorem pitem_text {a : Option Addr} {cap : Nat} {l : List Tk} {w : World} (hm : Toks w a cap l) (hl : Light l) (q : Nat) {bb : List Int} (ht : l[q]? = some ⟨4, 0, bb⟩) (hu : utf8 bb = true) (D : Int) : Calls Tryd.prog 23 #[.slice a l.length cap, .int .i64 q, .int .i64 D] w fun e w' => ∃ a' c', e = .returned (.agg (wkv ((q : Int) + 1) (.slice a' ((hd 3 bb.length).length + bb.length) c') false)) ∧ OwnBytes w' w.heap.size (.slice a' ((hd 3 bb.length).length + bb.length) c') (hd 3 bb.length ++ bb) ∧ Below w.heap.size w w' := by
  have hlen : (l.length : Int) ≤ 1000 := by have := hl.1; omega
  have hq := (List.getElem?_eq_some_iff.1 ht).1
  have hq' : (q : Int) < (l.length : Int) := by omega
  have hq0 : (0 : Int) ≤ (q : Int) := by omega
  obtain ⟨b, off, rfl, hat⟩ := hm.1.at ht
  have hlt : bb.length ≤ 100000 := hl.2 _ (List.mem_of_getElem? ht)
  have hlt' : (bb.length : Int) ≤ 100000 := by omega
  go_enter Tryd.func23, Tryd.ntmps23
  go_upto_region 2 with fail
  have hK := ((Kp.nil w).alloc (wkv 0 (.slice none 0 0) false) 53).alloc (wkv 0 (.slice none 0 0) true) 53
  rw [World.size_alloc] at hK
  rw [show (w.alloc (.cells #[.int .i64 0, .slice none 0 0, .bool false] 53)).alloc (.cells #[.int .i64 0, .slice none 0 0, .bool true] 53) = (w.alloc (.cells (wkv 0 (.slice none 0 0) false) 53)).alloc (.cells (wkv 0 (.slice none 0 0) true) 53) from rfl]
  generalize (w.alloc (.cells (wkv 0 (.slice none 0 0) false) 53)).alloc (.cells (wkv 0 (.slice none 0 0) true) 53) = W at *
  obtain ⟨bR, HbR⟩ : ∃ b, Hid (w.heap.size = b) := ⟨_, rfl⟩
  obtain ⟨bN, HbN⟩ : ∃ b, Hid (bR + 1 = b) := ⟨_, rfl⟩
  rw [HbR.out, HbN.out] at hK ⊢
  obtain ⟨d1, d2, _, d3, ⟨ta, tc, rfl, htw⟩, -⟩ := hat
  have hbl := World.block_lt_of_cell? w _ d1
  have c1 := (hK.2.cell (p := ⟨b, off + q * 3, none⟩) hbl).trans d1
  have c2 := (hK.2.cell (p := ⟨b, off + q * 3 + 1, none⟩) hbl).trans d2
  have c3 := (hK.2.cell (p := ⟨b, off + q * 3 + 2, none⟩) hbl).trans d3
  clear d1 d2 d3
  go_upto_region 5 with fail
  have hlR := (hK.at bR (wkv 0 (.slice none 0 0) false) 53 (.tail _ (.head _))).lt
  have hlN := (hK.at bN (wkv 0 (.slice none 0 0) true) 53 (.head _)).lt
  have hK := hK.alloc (tkv 4 0 (.slice ta bb.length tc)) 30
  rw [show W.alloc (.cells #[.int .i64 4, .int .i64 0, .slice ta bb.length tc] 30) = W.alloc (.cells (tkv 4 0 (.slice ta bb.length tc)) 30) from rfl]
  generalize W.alloc (.cells (tkv 4 0 (.slice ta bb.length tc)) 30) = W1 at *
  have htb : Txt W1 ta tc bb := htw.below hK.2
  obtain ⟨bT, HbT⟩ : ∃ b, Hid (W.heap.size = b) := ⟨_, rfl⟩
  rw [HbT.out] at hK hlR hlN ⊢
  clear c1 c2 c3
  obtain ⟨c1, c2, c3⟩ := own_three (hK.at bT (tkv 4 0 (.slice ta bb.length tc)) 30 (.head _))
  replace hlR := show Hid _ from hlR
  replace hlN := show Hid _ from hlN
  go_upto_region 15 with fail
  go_wp2_with fail
  refine (putf8_is htb (by omega)).mono ?_
  rintro e w' ⟨rfl, rfl⟩
  rw [hu]
  go_upto_region 17 with fail
  have bb8 : Bys bb := htb.1.2.2.2.1
  have bAll : Hid (Bys (hd 3 bb.length ++ bb)) := fun x hx => (List.mem_append.1 hx).elim (hd_bytes (by decide) x) (bb8 x)
  have hbW : Hid (w.heap.size ≤ w'.heap.size) := hK.2.size
  refine wp_region_lt 191 10 (fun _ => [(bT, tkv 4 0 (.slice ta bb.length tc), 30), (bN, wkv 0 (.slice none 0 0) true, 53), (bR, wkv 0 (.slice none 0 0) false, 53)])
    [.v (.int .i64 q), .v (.int .i64 ((q : Int) + 1)), .v (.pointer (some ⟨bT, 2, none⟩)), .v (.slice ta bb.length tc), .v (.int .i64 bb.length), .od (obR w.heap.size (hd 3 bb.length)) 8, .v (.pointer (some ⟨bT, 2, none⟩)), .v (.slice ta bb.length tc), .ow (obR w.heap.size (hd 3 bb.length ++ bb)), .fn 8 (fun v => .agg (wkv ((q : Int) + 1) v false))] hK (by kernel_rfl) (by kernel_rfl) (by kernel_rfl) (by rfl) (by kernel_rfl) (by kernel_rfl) ?_ ?_
  · refine .c (.p1 1 (.int .i64 q)) <| .c (.p1 96 (.int .i64 q) (h := by intro ac wc f9; have qq := getq f9; go_simp; rw [IntKind.wrap_i64]; omega)) <| .c (.p1 8 (.pointer (some ⟨bT, 0, none⟩))) <| .c (.lc bT 2 (fun _ wq hk => (own_three (hk.at bT (tkv 4 0 (.slice ta bb.length tc)) 30 (.head _))).2.2) load_bytes) <| .c (.p1 99 (.slice ta bb.length tc)) <| .c (.cd 8 (fun _ => #[.int .i64 3, .int .i64 bb.length]) ?_) <| .c (.p1 8 (.pointer (some ⟨bT, 0, none⟩))) <| .c (.lc bT 2 (fun _ wq hk => (own_three (hk.at bT (tkv 4 0 (.slice ta bb.length tc)) 30 (.head _))).2.2) load_bytes) <| .c (.ab (xs := hd 3 bb.length) (m := bb) 5 (fun _ vs wq hA => ⟨ta, tc, rfl, ?_⟩) ob_id (by rw [hd_length]; have := hsize_le bb.length; omega)) <| .c (.pj 8 ?_) .nil
    · intro _ vs wq hA
      refine (phead_is 3 bb.length (by decide) (by omega) wq).mono ?_
      rintro e w2 ⟨a2, c2', rfl, hO2, hb2⟩
      exact ⟨_, rfl, own_low hO2 hA.j.kp.2.size, (tx_own hO2 (hd_bytes (by decide))).2, hb2⟩
    · exact htw.below hA.j.kp.2
    · intro _ vs wq ac hA he
      have h1 : ac.tmps.getD 97 undef = .int .i64 ((q : Int) + 1) := (he (.tmp 97) (by simp [Op.operands])).trans (by kernel_rfl)
      have h2 : ac.tmps.getD 104 undef = vs 8 := (he (.tmp 104) (by simp [Op.operands])).trans (by kernel_rfl)
      obtain ⟨a2, c2', e2, -⟩ := OwnBytes.form (hA.own 8) bAll.out
      refine ⟨dep hA.dep 8 (by rfl), ?_⟩
      rw [e2] at h2 ⊢
      exact run_build_walk 97 104 rfl h1 h2 wq
  · intro vs V hJ hf
    simp only [List.take_succ_cons, List.take_zero, List.drop_succ_cons, List.drop_zero, putL, Lv.val, Act.put, List.setIfInBounds_toArray, List.set_cons_succ, List.set_cons_zero]
    have e9 := (hJ.al 9 8 _ rfl rfl).2
    have hO := hJ.ow 8 _ rfl rfl
    obtain ⟨a2, c2', e8, -⟩ := OwnBytes.form hO bAll.out
    have hO : OwnBytes V w.heap.size (.slice a2 (hd 3 bb.length ++ bb).length c2') (hd 3 bb.length ++ bb) := by rw [← e8]; exact hO
    obtain ⟨N, HN⟩ : ∃ N, Hid ((hd 3 bb.length).length + bb.length = N) := ⟨_, rfl⟩
    rw [List.length_append, HN.out] at e8 hO
    rw [e8] at e9
    have hne : ∀ g ∈ blks (.slice a2 N c2'), g ≠ bR := fun g hg => Ne.symm ((hJ.fr 8 rfl rfl g (by rw [e8]; exact hg)).2.2 (bR, wkv 0 (.slice none 0 0) false, 53) (.tail _ (.tail _ (.head _))))
    have hK2 := hJ.kp
    refine wpList_store_own (op := { dst := none, op := _, type := _, pos := _, after := _, guard := _ }) rfl 53 (.tmp 6) (.tmp 105) rfl bR 0 (wkv ((q : Int) + 1) (.slice a2 N c2') false) (by rfl) (by exact e9) (hK2.at bR (wkv 0 (.slice none 0 0) false) 53 (.tail _ (.tail _ (.head _)))) (wkv_le _ _ _ _ _ _) (walk_info _ _ _) (wkv_one _ _ _ _ _) (by rfl) ?_
    go_wp2_with fail
    refine bodyPost_ret (results_walk Tryd.results23 _ _ bR ((q : Int) + 1) (.slice a2 N c2') false (by rfl) (own_setCells (hK2.at bR (wkv 0 (.slice none 0 0) false) 53 (.tail _ (.tail _ (.head _)))) rfl)) rfl ⟨a2, c2', by rw [HN.out], by rw [HN.out]; exact own_apart hO (grown_setCellsQ bR _ 0 _) hne, Below.setCells _ _ _ _ (by rw [HbR.out]; exact Nat.le_refl _) hK2.2⟩
set_option maxRecDepth 100000 in
set_option maxHeartbeats 1000000 in
theorem pitem_notext {a : Option Addr} {cap : Nat} {l : List Tk} {w : World} (hm : Toks w a cap l) (hl : Light l) (q : Nat) {bb : List Int} (ht : l[q]? = some ⟨4, 0, bb⟩) (hu : utf8 bb = false) (D : Int) : Calls Tryd.prog 23 #[.slice a l.length cap, .int .i64 q, .int .i64 D] w fun e w' => e = .returned (.agg (wkv 0 (.slice none 0 0) true)) ∧ Below w.heap.size w w' := by
  have hlen : (l.length : Int) ≤ 1000 := by have := hl.1; omega
  have hq := (List.getElem?_eq_some_iff.1 ht).1
  have hq' : (q : Int) < (l.length : Int) := by omega
  have hq0 : (0 : Int) ≤ (q : Int) := by omega
  obtain ⟨b, off, rfl, hat⟩ := hm.1.at ht
  have hlt : bb.length ≤ 100000 := hl.2 _ (List.mem_of_getElem? ht)
  have hlt' : (bb.length : Int) ≤ 100000 := by omega
  go_enter Tryd.func23, Tryd.ntmps23
  go_upto_region 2 with fail
  have hK := ((Kp.nil w).alloc (wkv 0 (.slice none 0 0) false) 53).alloc (wkv 0 (.slice none 0 0) true) 53
  rw [World.size_alloc] at hK
  rw [show (w.alloc (.cells #[.int .i64 0, .slice none 0 0, .bool false] 53)).alloc (.cells #[.int .i64 0, .slice none 0 0, .bool true] 53) = (w.alloc (.cells (wkv 0 (.slice none 0 0) false) 53)).alloc (.cells (wkv 0 (.slice none 0 0) true) 53) from rfl]
  generalize (w.alloc (.cells (wkv 0 (.slice none 0 0) false) 53)).alloc (.cells (wkv 0 (.slice none 0 0) true) 53) = W at *
  obtain ⟨bR, HbR⟩ : ∃ b, Hid (w.heap.size = b) := ⟨_, rfl⟩
  obtain ⟨bN, HbN⟩ : ∃ b, Hid (bR + 1 = b) := ⟨_, rfl⟩
  rw [HbR.out, HbN.out] at hK ⊢
  obtain ⟨d1, d2, _, d3, ⟨ta, tc, rfl, htw⟩, -⟩ := hat
  have hbl := World.block_lt_of_cell? w _ d1
  have c1 := (hK.2.cell (p := ⟨b, off + q * 3, none⟩) hbl).trans d1
  have c2 := (hK.2.cell (p := ⟨b, off + q * 3 + 1, none⟩) hbl).trans d2
  have c3 := (hK.2.cell (p := ⟨b, off + q * 3 + 2, none⟩) hbl).trans d3
  clear d1 d2 d3
  go_upto_region 5 with fail
  have hlR := (hK.at bR (wkv 0 (.slice none 0 0) false) 53 (.tail _ (.head _))).lt
  have hlN := (hK.at bN (wkv 0 (.slice none 0 0) true) 53 (.head _)).lt
  have hK := hK.alloc (tkv 4 0 (.slice ta bb.length tc)) 30
  rw [show W.alloc (.cells #[.int .i64 4, .int .i64 0, .slice ta bb.length tc] 30) = W.alloc (.cells (tkv 4 0 (.slice ta bb.length tc)) 30) from rfl]
  generalize W.alloc (.cells (tkv 4 0 (.slice ta bb.length tc)) 30) = W1 at *
  have htb : Txt W1 ta tc bb := htw.below hK.2
  obtain ⟨bT, HbT⟩ : ∃ b, Hid (W.heap.size = b) := ⟨_, rfl⟩
  rw [HbT.out] at hK hlR hlN ⊢
  clear c1 c2 c3
  obtain ⟨c1, c2, c3⟩ := own_three (hK.at bT (tkv 4 0 (.slice ta bb.length tc)) 30 (.head _))
  replace hlR := show Hid _ from hlR
  replace hlN := show Hid _ from hlN
  go_upto_region 15 with fail
  go_wp2_with fail
  refine (putf8_is htb (by omega)).mono ?_
  rintro e w' ⟨rfl, rfl⟩
  rw [hu]
  go_upto_region 16 with fail
  go_wp2_with (first
    | refine wpList_load_own (by rfl) 53 (.tmp 7) (by rfl) bN (by rfl) (wkv 0 (.slice none 0 0) true) _ (hK.at bN (wkv 0 (.slice none 0 0) true) 53 (.tail _ (.head _))) Tryd.underlying53 (by rfl) (walk_info _ _ _) ?_
    | refine wpList_store_own (op := { dst := none, op := _, type := _, pos := _, after := _, guard := _ }) rfl 53 (.tmp 6) (.tmp 95) rfl bR 0 (wkv 0 (.slice none 0 0) true) (by rfl) (by rfl) (hK.at bR (wkv 0 (.slice none 0 0) false) 53 (.tail _ (.tail _ (.head _)))) (wkv_le _ _ _ _ _ _) (walk_info _ _ _) (wkv_one _ _ _ _ _) (by rfl) ?_)
  refine bodyPost_ret (results_walk Tryd.results23 _ _ bR 0 (.slice none 0 0) true (by rfl) (own_setCells (hK.at bR (wkv 0 (.slice none 0 0) false) 53 (.tail _ (.tail _ (.head _)))) rfl)) rfl ⟨rfl, Below.setCells _ _ _ _ (by rw [HbR.out]; exact Nat.le_refl _) hK.2⟩
set_option maxRecDepth 100000 in
set_option maxHeartbeats 1000000 in
theorem pitem_kind {a : Option Addr} {cap : Nat} {l : List Tk} {w : World} (hm : Toks w a cap l) (hl : Light l) (q : Nat) {k n : Int} (ht : l[q]? = some ⟨k, n, []⟩) (h0 : 0 ≤ n) (h1 : k ≠ 1) (h2 : k ≠ 2) (h3 : k ≠ 3) (h4 : k ≠ 4) (h5 : k ≠ 5) (h6 : k ≠ 6) (D : Int) : Calls Tryd.prog 23 #[.slice a l.length cap, .int .i64 q, .int .i64 D] w fun e w' => e = .returned (.agg (wkv 0 (.slice none 0 0) true)) ∧ Below w.heap.size w w' := by
  have e1 : (k == 1) = false := beq_eq_false_iff_ne.2 h1
  have e2 : (k == 2) = false := beq_eq_false_iff_ne.2 h2
  have e3 : (k == 3) = false := beq_eq_false_iff_ne.2 h3
  have e4 : (k == 4) = false := beq_eq_false_iff_ne.2 h4
  have e5 : (k == 5) = false := beq_eq_false_iff_ne.2 h5
  have e6 : (k == 6) = false := beq_eq_false_iff_ne.2 h6
  have d3 : (k != 3) = true := by rw [bne, e3]; rfl
  have d4 : (k != 4) = true := by rw [bne, e4]; rfl
  have hn0 : ¬ n < 0 := by omega
  have hlen : (l.length : Int) ≤ 1000 := by have := hl.1; omega
  have hq := (List.getElem?_eq_some_iff.1 ht).1
  have hq' : (q : Int) < (l.length : Int) := by omega
  have hq0 : (0 : Int) ≤ (q : Int) := by omega
  obtain ⟨b, off, rfl, hat⟩ := hm.1.at ht
  go_enter Tryd.func23, Tryd.ntmps23
  go_upto_region 2 with fail
  have hK := ((Kp.nil w).alloc (wkv 0 (.slice none 0 0) false) 53).alloc (wkv 0 (.slice none 0 0) true) 53
  rw [World.size_alloc] at hK
  rw [show (w.alloc (.cells #[.int .i64 0, .slice none 0 0, .bool false] 53)).alloc (.cells #[.int .i64 0, .slice none 0 0, .bool true] 53) = (w.alloc (.cells (wkv 0 (.slice none 0 0) false) 53)).alloc (.cells (wkv 0 (.slice none 0 0) true) 53) from rfl]
  generalize (w.alloc (.cells (wkv 0 (.slice none 0 0) false) 53)).alloc (.cells (wkv 0 (.slice none 0 0) true) 53) = W at *
  obtain ⟨bR, HbR⟩ : ∃ b, Hid (w.heap.size = b) := ⟨_, rfl⟩
  obtain ⟨bN, HbN⟩ : ∃ b, Hid (bR + 1 = b) := ⟨_, rfl⟩
  rw [HbR.out, HbN.out] at hK ⊢
  obtain ⟨d1, d2, _, d9, ⟨ta, tc, rfl, htw⟩, -⟩ := hat
  have hbl := World.block_lt_of_cell? w _ d1
  have c1 := (hK.2.cell (p := ⟨b, off + q * 3, none⟩) hbl).trans d1
  have c2 := (hK.2.cell (p := ⟨b, off + q * 3 + 1, none⟩) hbl).trans d2
  have c3 := (hK.2.cell (p := ⟨b, off + q * 3 + 2, none⟩) hbl).trans d9
  clear d1 d2 d9
  simp only [List.length_nil] at c3
  go_upto_region 5 with fail
  have hlR := (hK.at bR (wkv 0 (.slice none 0 0) false) 53 (.tail _ (.head _))).lt
  have hlN := (hK.at bN (wkv 0 (.slice none 0 0) true) 53 (.head _)).lt
  have hK := hK.alloc (tkv k n (.slice ta 0 tc)) 30
  rw [show W.alloc (.cells #[.int .i64 k, .int .i64 n, .slice ta 0 tc] 30) = W.alloc (.cells (tkv k n (.slice ta 0 tc)) 30) from rfl]
  generalize W.alloc (.cells (tkv k n (.slice ta 0 tc)) 30) = W1 at *
  have htb : Txt W1 ta tc [] := htw.below hK.2
  obtain ⟨bT, HbT⟩ : ∃ b, Hid (W.heap.size = b) := ⟨_, rfl⟩
  rw [HbT.out] at hK hlR hlN ⊢
  clear c1 c2 c3
  obtain ⟨c1, c2, c3⟩ := own_three (hK.at bT (tkv k n (.slice ta 0 tc)) 30 (.head _))
  replace hlR := show Hid _ from hlR
  replace hlN := show Hid _ from hlN
  go_upto_region 40 with fail
  go_wp2_with (first
    | refine wpList_load_own (by rfl) 53 (.tmp 7) (by rfl) bN (by rfl) (wkv 0 (.slice none 0 0) true) _ (hK.at bN (wkv 0 (.slice none 0 0) true) 53 (.tail _ (.head _))) Tryd.underlying53 (by rfl) (walk_info _ _ _) ?_
    | refine wpList_store_own (op := { dst := none, op := _, type := _, pos := _, after := _, guard := _ }) rfl 53 (.tmp 6) (.tmp 190) rfl bR 0 (wkv 0 (.slice none 0 0) true) (by rfl) (by rfl) (hK.at bR (wkv 0 (.slice none 0 0) false) 53 (.tail _ (.tail _ (.head _)))) (wkv_le _ _ _ _ _ _) (walk_info _ _ _) (wkv_one _ _ _ _ _) (by rfl) ?_)
  refine bodyPost_ret (results_walk Tryd.results23 _ _ bR 0 (.slice none 0 0) true (by rfl) (own_setCells (hK.at bR (wkv 0 (.slice none 0 0) false) 53 (.tail _ (.tail _ (.head _)))) rfl)) rfl ⟨rfl, Below.setCells _ _ _ _ (by rw [HbR.out]; exact Nat.le_refl _) hK.2⟩
end Go.Proofs.YtaabcllghniaoabDoor
