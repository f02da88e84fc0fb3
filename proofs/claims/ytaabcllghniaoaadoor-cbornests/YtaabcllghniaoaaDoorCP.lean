/- Rows of tokens: held against one another; too heavy. -/
import Derived.Test.YtaabcllghniaoaaDoorCN
namespace Go.Proofs.YtaabcllghniaoaaDoor
open Go Go.RowKit
theorem toks_ext {l m : List Tk} (hl : l.length = m.length) (h : ∀ j, j < l.length → l[j]? = m[j]?) : l = m := by
  refine List.ext_getElem? fun j => ?_
  rcases Nat.lt_or_ge j l.length with h1 | h1
  · exact h j h1
  · rw [List.getElem?_eq_none h1, List.getElem?_eq_none (by omega)]
set_option maxRecDepth 100000 in
set_option maxHeartbeats 4000000 in
theorem toks_cmp {a a' : Option Addr} {cap cap' : Nat} {l m : List Tk} {w : World} (h1 : Toks w a cap l) (h2 : Toks w a' cap' m) :
    Calls Tryd.prog 14 #[.slice a l.length cap, .slice a' m.length cap'] w fun e w' => e = .returned (.bool (decide (l = m))) ∧ Below w.heap.size w w' := by
  have hlm : (l.length : Int) ≤ 9223372036854775807 := by have h3 := Nat.le_trans h1.1.2.1 h1.1.2.2.1; unfold maxLen at h3; omega
  have hlm' : (m.length : Int) ≤ 9223372036854775807 := by have h3 := Nat.le_trans h2.1.2.1 h2.1.2.2.1; unfold maxLen at h3; omega
  by_cases hll : l.length ≠ m.length
  · have hne : l ≠ m := fun e => hll (by rw [e])
    have hq : ((l.length : Int) == (m.length : Int)) = false := by rw [beq_eq_false_iff_ne]; omega
    have hq' : ((l.length : Int) != (m.length : Int)) = true := by rw [bne, hq]; rfl
    clear hll
    rw [decide_eq_false hne]
    go_enter Tryd.func14, Tryd.ntmps14
    go_wp2_with fail
    go_ret
    exact ⟨rfl, Below.refl _ _⟩
  have hll : Hid (l.length = m.length) := Classical.not_not.1 hll
  obtain ⟨N, HN⟩ : ∃ N, Hid (l.length = N) := ⟨_, rfl⟩
  rw [HN.out] at hlm ⊢
  rw [← hll.out, HN.out] at hlm' ⊢
  have hq : ((N : Int) == (N : Int)) = true := beq_self_eq_true _
  have hq' : ((N : Int) != (N : Int)) = false := by rw [bne, hq]; rfl
  go_enter Tryd.func14, Tryd.ntmps14
  go_wp2_with fail
  go_loopw [5] (fun iv wr => ∃ i : Nat, i ≤ N ∧ iv = .int .i64 (i : Int) ∧ Hid (∀ j, j < i → l[j]? = m[j]?) ∧ Below w.heap.size w wr) (fun iv _ => N - (intOf iv).toNat)
  case atStart => exact ⟨0, Nat.zero_le _, rfl, fun j h => absurd h (Nat.not_lt_zero _), Below.refl _ _⟩
  case round =>
    obtain ⟨i, hi, rfl, hs, hb⟩ := hrel
    by_cases hkl : i < N
    · have hki : (i : Int) < (N : Int) := by omega
      have hi0 : (0 : Int) ≤ (i : Int) := by omega
      obtain ⟨t, ht⟩ : ∃ t, Hid (l[i]? = some t) := ⟨_, List.getElem?_eq_getElem (by have := HN.out; omega)⟩
      obtain ⟨u, hu⟩ : ∃ u, Hid (m[i]? = some u) := ⟨_, List.getElem?_eq_getElem (by have := HN.out; have := hll.out; omega)⟩
      obtain ⟨b, off, rfl, hat⟩ := (h1.below hb).1.at ht.out
      obtain ⟨b', off', rfl, hau⟩ := (h2.below hb).1.at hu.out
      obtain ⟨c1, c2, _, c3, ⟨ta, tc, rfl, htx⟩, -⟩ := hat
      obtain ⟨d1, d2, _, d3, ⟨ua, uc, rfl, hux⟩, -⟩ := hau
      obtain ⟨k, n, bb⟩ := t
      obtain ⟨k', n', bb'⟩ := u
      simp only at c1 c2 c3 d1 d2 d3 htx hux
      have hbl : Hid (b < wr.heap.size) := World.block_lt_of_cell? wr _ c1
      have hbl' : Hid (b' < wr.heap.size) := World.block_lt_of_cell? wr _ d1
      have c1 := show Hid _ from c1
      have c2 := show Hid _ from c2
      have c3 := show Hid _ from c3
      have d1 := show Hid _ from d1
      have d2 := show Hid _ from d2
      have d3 := show Hid _ from d3
      have hs' := show Hid _ from hs
      have keep : ∀ {o : Nat} {v : Value} (wq : World), Kp [] wr wq → wr.cell? ⟨b, o, none⟩ = some v → wq.cell? ⟨b, o, none⟩ = some v := fun wq h1 h2 => (h1.2.cell (p := ⟨b, _, none⟩) hbl.out).trans h2
      have keep' : ∀ {o : Nat} {v : Value} (wq : World), Kp [] wr wq → wr.cell? ⟨b', o, none⟩ = some v → wq.cell? ⟨b', o, none⟩ = some v := fun wq h1 h2 => (h1.2.cell (p := ⟨b', _, none⟩) hbl'.out).trans h2
      have keep := show Hid _ from @keep
      have keep' := show Hid _ from @keep'
      by_cases hkk : k = k'
      · have e1 : (k == k') = true := beq_iff_eq.2 hkk
        have e2 : (k != k') = false := by rw [bne, e1]; rfl
        have hkk := show Hid _ from hkk
        by_cases hnn : n = n'
        · have e3 : (n == n') = true := beq_iff_eq.2 hnn
          have e4 : (n != n') = false := by rw [bne, e3]; rfl
          have hnn := show Hid _ from hnn
          by_cases hbb : bb = bb'
          · have e5 : decide (bb = bb') = true := decide_eq_true hbb
            have hbb := show Hid _ from hbb
            go_upto_region 6 with fail
            refine wp_region_lv 55 (fun _ => []) [.v (.slice (some ⟨b, off, none⟩) N cap), .v (.int .i64 (i : Int)), .v (.pointer (some ⟨b, off + i * 3, none⟩)), .v (.pointer (some ⟨b, off + i * 3, none⟩)), .v (.int .i64 k), .v (.slice (some ⟨b', off', none⟩) N cap'), .v (.int .i64 (i : Int)), .v (.pointer (some ⟨b', off' + i * 3, none⟩)), .v (.pointer (some ⟨b', off' + i * 3, none⟩)), .v (.int .i64 k'), .v (.bool false), .v (.bool false), .v (.slice (some ⟨b, off, none⟩) N cap), .v (.int .i64 (i : Int)), .v (.pointer (some ⟨b, off + i * 3, none⟩)), .v (.pointer (some ⟨b, off + i * 3 + 1, none⟩)), .v (.int .i64 n), .v (.slice (some ⟨b', off', none⟩) N cap'), .v (.int .i64 (i : Int)), .v (.pointer (some ⟨b', off' + i * 3, none⟩)), .v (.pointer (some ⟨b', off' + i * 3 + 1, none⟩)), .v (.int .i64 n'), .v (.bool false), .v (.bool false), .v (.bool false), .v (.slice (some ⟨b, off, none⟩) N cap), .v (.int .i64 (i : Int)), .v (.pointer (some ⟨b, off + i * 3, none⟩)), .v (.pointer (some ⟨b, off + i * 3 + 2, none⟩)), .v (.slice ta bb.length tc), .v (.slice (some ⟨b', off', none⟩) N cap'), .v (.int .i64 (i : Int)), .v (.pointer (some ⟨b', off' + i * 3, none⟩)), .v (.pointer (some ⟨b', off' + i * 3 + 2, none⟩)), .v (.slice ua bb'.length uc), .v (.bool (decide (bb = bb'))), .v (.bool (!decide (bb = bb'))), .v (.bool (!decide (bb = bb')))] (Kp.nil wr) (by kernel_rfl) (by kernel_rfl) (by kernel_rfl) (by rfl) ?_ ?_
            · refine .c (.p1 0 (.slice (some ⟨b, off, none⟩) N cap)) <| .c (.p1 5 (.int .i64 (i : Int))) <| .c (.p2 17 (.slice (some ⟨b, off, none⟩) N cap) 18 (.int .i64 (i : Int))) <| .c (.p1 19 (.pointer (some ⟨b, off + i * 3, none⟩))) <| .c (.lc b (off + i * 3) (fun _ wq hk => keep.out wq hk c1.out) load_i64) <| .c (.p1 1 (.slice (some ⟨b', off', none⟩) N cap')) <| .c (.p1 5 (.int .i64 (i : Int))) <| .c (.p2 22 (.slice (some ⟨b', off', none⟩) N cap') 23 (.int .i64 (i : Int))) <| .c (.p1 24 (.pointer (some ⟨b', off' + i * 3, none⟩))) <| .c (.lc b' (off' + i * 3) (fun _ wq hk => keep'.out wq hk d1.out) load_i64) <| .c (.p2 21 (.int .i64 k) 26 (.int .i64 k')) <| .c (.p1 27 (.bool false)) <| .c (.p1 0 (.slice (some ⟨b, off, none⟩) N cap)) <| .c (.p1 5 (.int .i64 (i : Int))) <| .c (.p2 29 (.slice (some ⟨b, off, none⟩) N cap) 30 (.int .i64 (i : Int))) <| .c (.p1 31 (.pointer (some ⟨b, off + i * 3, none⟩))) <| .c (.lc b (off + i * 3 + 1) (fun _ wq hk => keep.out wq hk c2.out) load_i64) <| .c (.p1 1 (.slice (some ⟨b', off', none⟩) N cap')) <| .c (.p1 5 (.int .i64 (i : Int))) <| .c (.p2 34 (.slice (some ⟨b', off', none⟩) N cap') 35 (.int .i64 (i : Int))) <| .c (.p1 36 (.pointer (some ⟨b', off' + i * 3, none⟩))) <| .c (.lc b' (off' + i * 3 + 1) (fun _ wq hk => keep'.out wq hk d2.out) load_i64) <| .c (.p2 33 (.int .i64 n) 38 (.int .i64 n')) <| .c (.p2 28 (.bool false) 39 (.bool false)) <| .c (.p1 40 (.bool false)) <| .c (.p1 0 (.slice (some ⟨b, off, none⟩) N cap)) <| .c (.p1 5 (.int .i64 (i : Int))) <| .c (.p2 42 (.slice (some ⟨b, off, none⟩) N cap) 43 (.int .i64 (i : Int))) <| .c (.p1 44 (.pointer (some ⟨b, off + i * 3, none⟩))) <| .c (.lc b (off + i * 3 + 2) (fun _ wq hk => keep.out wq hk c3.out) load_bytes) <| .c (.p1 1 (.slice (some ⟨b', off', none⟩) N cap')) <| .c (.p1 5 (.int .i64 (i : Int))) <| .c (.p2 47 (.slice (some ⟨b', off', none⟩) N cap') 48 (.int .i64 (i : Int))) <| .c (.p1 49 (.pointer (some ⟨b', off' + i * 3, none⟩))) <| .c (.lc b' (off' + i * 3 + 2) (fun _ wq hk => keep'.out wq hk d3.out) load_bytes) <| .c (.ca (fun _ wq hk => bytes_tx (htx.below hk.2) (hux.below hk.2))) <| .c (.p1 52 (.bool (decide (bb = bb')))) <| .c (.p2 41 (.bool false) 53 (.bool (!decide (bb = bb')))) <| .nil
            · intro vs V hJ hf
              have hBV := hJ.1.2
              have hbV := hb.trans (hBV.mono hb.size)
              simp only [putL, Lv.val, Act.put, List.setIfInBounds_toArray, List.set_cons_succ, List.set_cons_zero]
              rw [e5]
              go_wp2_with fail
              go_roundw
              case rel =>
                refine ⟨i + 1, hkl, by go_num, fun j hj => ?_, hbV⟩
                rcases Nat.lt_or_ge j i with h | h
                · exact hs'.out j h
                · obtain rfl : j = i := by omega
                  rw [ht.out, hu.out, hkk.out, hnn.out, hbb.out]
              case measure => simp [intOf]; omega
          · have e5 : decide (bb = bb') = false := decide_eq_false hbb
            have hne : Hid (l ≠ m) := fun e => by
              have h3 := ht.out
              rw [e, hu.out] at h3
              simp only [Option.some.injEq, Tk.mk.injEq] at h3
              exact hbb h3.2.2.symm
            go_upto_region 6 with fail
            refine wp_region_lv 55 (fun _ => []) [.v (.slice (some ⟨b, off, none⟩) N cap), .v (.int .i64 (i : Int)), .v (.pointer (some ⟨b, off + i * 3, none⟩)), .v (.pointer (some ⟨b, off + i * 3, none⟩)), .v (.int .i64 k), .v (.slice (some ⟨b', off', none⟩) N cap'), .v (.int .i64 (i : Int)), .v (.pointer (some ⟨b', off' + i * 3, none⟩)), .v (.pointer (some ⟨b', off' + i * 3, none⟩)), .v (.int .i64 k'), .v (.bool false), .v (.bool false), .v (.slice (some ⟨b, off, none⟩) N cap), .v (.int .i64 (i : Int)), .v (.pointer (some ⟨b, off + i * 3, none⟩)), .v (.pointer (some ⟨b, off + i * 3 + 1, none⟩)), .v (.int .i64 n), .v (.slice (some ⟨b', off', none⟩) N cap'), .v (.int .i64 (i : Int)), .v (.pointer (some ⟨b', off' + i * 3, none⟩)), .v (.pointer (some ⟨b', off' + i * 3 + 1, none⟩)), .v (.int .i64 n'), .v (.bool false), .v (.bool false), .v (.bool false), .v (.slice (some ⟨b, off, none⟩) N cap), .v (.int .i64 (i : Int)), .v (.pointer (some ⟨b, off + i * 3, none⟩)), .v (.pointer (some ⟨b, off + i * 3 + 2, none⟩)), .v (.slice ta bb.length tc), .v (.slice (some ⟨b', off', none⟩) N cap'), .v (.int .i64 (i : Int)), .v (.pointer (some ⟨b', off' + i * 3, none⟩)), .v (.pointer (some ⟨b', off' + i * 3 + 2, none⟩)), .v (.slice ua bb'.length uc), .v (.bool (decide (bb = bb'))), .v (.bool (!decide (bb = bb'))), .v (.bool (!decide (bb = bb')))] (Kp.nil wr) (by kernel_rfl) (by kernel_rfl) (by kernel_rfl) (by rfl) ?_ ?_
            · refine .c (.p1 0 (.slice (some ⟨b, off, none⟩) N cap)) <| .c (.p1 5 (.int .i64 (i : Int))) <| .c (.p2 17 (.slice (some ⟨b, off, none⟩) N cap) 18 (.int .i64 (i : Int))) <| .c (.p1 19 (.pointer (some ⟨b, off + i * 3, none⟩))) <| .c (.lc b (off + i * 3) (fun _ wq hk => keep.out wq hk c1.out) load_i64) <| .c (.p1 1 (.slice (some ⟨b', off', none⟩) N cap')) <| .c (.p1 5 (.int .i64 (i : Int))) <| .c (.p2 22 (.slice (some ⟨b', off', none⟩) N cap') 23 (.int .i64 (i : Int))) <| .c (.p1 24 (.pointer (some ⟨b', off' + i * 3, none⟩))) <| .c (.lc b' (off' + i * 3) (fun _ wq hk => keep'.out wq hk d1.out) load_i64) <| .c (.p2 21 (.int .i64 k) 26 (.int .i64 k')) <| .c (.p1 27 (.bool false)) <| .c (.p1 0 (.slice (some ⟨b, off, none⟩) N cap)) <| .c (.p1 5 (.int .i64 (i : Int))) <| .c (.p2 29 (.slice (some ⟨b, off, none⟩) N cap) 30 (.int .i64 (i : Int))) <| .c (.p1 31 (.pointer (some ⟨b, off + i * 3, none⟩))) <| .c (.lc b (off + i * 3 + 1) (fun _ wq hk => keep.out wq hk c2.out) load_i64) <| .c (.p1 1 (.slice (some ⟨b', off', none⟩) N cap')) <| .c (.p1 5 (.int .i64 (i : Int))) <| .c (.p2 34 (.slice (some ⟨b', off', none⟩) N cap') 35 (.int .i64 (i : Int))) <| .c (.p1 36 (.pointer (some ⟨b', off' + i * 3, none⟩))) <| .c (.lc b' (off' + i * 3 + 1) (fun _ wq hk => keep'.out wq hk d2.out) load_i64) <| .c (.p2 33 (.int .i64 n) 38 (.int .i64 n')) <| .c (.p2 28 (.bool false) 39 (.bool false)) <| .c (.p1 40 (.bool false)) <| .c (.p1 0 (.slice (some ⟨b, off, none⟩) N cap)) <| .c (.p1 5 (.int .i64 (i : Int))) <| .c (.p2 42 (.slice (some ⟨b, off, none⟩) N cap) 43 (.int .i64 (i : Int))) <| .c (.p1 44 (.pointer (some ⟨b, off + i * 3, none⟩))) <| .c (.lc b (off + i * 3 + 2) (fun _ wq hk => keep.out wq hk c3.out) load_bytes) <| .c (.p1 1 (.slice (some ⟨b', off', none⟩) N cap')) <| .c (.p1 5 (.int .i64 (i : Int))) <| .c (.p2 47 (.slice (some ⟨b', off', none⟩) N cap') 48 (.int .i64 (i : Int))) <| .c (.p1 49 (.pointer (some ⟨b', off' + i * 3, none⟩))) <| .c (.lc b' (off' + i * 3 + 2) (fun _ wq hk => keep'.out wq hk d3.out) load_bytes) <| .c (.ca (fun _ wq hk => bytes_tx (htx.below hk.2) (hux.below hk.2))) <| .c (.p1 52 (.bool (decide (bb = bb')))) <| .c (.p2 41 (.bool false) 53 (.bool (!decide (bb = bb')))) <| .nil
            · intro vs V hJ hf
              have hBV := hJ.1.2
              have hbV := hb.trans (hBV.mono hb.size)
              simp only [putL, Lv.val, Act.put, List.setIfInBounds_toArray, List.set_cons_succ, List.set_cons_zero]
              rw [e5]
              go_wp2_with fail
              go_ret
              exact ⟨by rw [decide_eq_false hne.out]; rfl, hbV⟩
        · have e3 : (n == n') = false := beq_eq_false_iff_ne.2 hnn
          have e4 : (n != n') = true := by rw [bne, e3]; rfl
          have hne : Hid (l ≠ m) := fun e => by
            have h3 := ht.out
            rw [e, hu.out] at h3
            simp only [Option.some.injEq, Tk.mk.injEq] at h3
            exact hnn h3.2.1.symm
          go_upto_region 6 with fail
          refine wp_region_lv 55 (fun _ => []) [.v (.slice (some ⟨b, off, none⟩) N cap), .v (.int .i64 (i : Int)), .v (.pointer (some ⟨b, off + i * 3, none⟩)), .v (.pointer (some ⟨b, off + i * 3, none⟩)), .v (.int .i64 k), .v (.slice (some ⟨b', off', none⟩) N cap'), .v (.int .i64 (i : Int)), .v (.pointer (some ⟨b', off' + i * 3, none⟩)), .v (.pointer (some ⟨b', off' + i * 3, none⟩)), .v (.int .i64 k'), .v (.bool false), .v (.bool false), .v (.slice (some ⟨b, off, none⟩) N cap), .v (.int .i64 (i : Int)), .v (.pointer (some ⟨b, off + i * 3, none⟩)), .v (.pointer (some ⟨b, off + i * 3 + 1, none⟩)), .v (.int .i64 n), .v (.slice (some ⟨b', off', none⟩) N cap'), .v (.int .i64 (i : Int)), .v (.pointer (some ⟨b', off' + i * 3, none⟩)), .v (.pointer (some ⟨b', off' + i * 3 + 1, none⟩)), .v (.int .i64 n'), .v (.bool true), .v (.bool true), .v (.bool true), .v undef, .v undef, .v undef, .v undef, .v undef, .v undef, .v undef, .v undef, .v undef, .v undef, .v undef, .v undef, .v (.bool true)] (Kp.nil wr) (by kernel_rfl) (by kernel_rfl) (by kernel_rfl) (by rfl) ?_ ?_
          · refine .c (.p1 0 (.slice (some ⟨b, off, none⟩) N cap)) <| .c (.p1 5 (.int .i64 (i : Int))) <| .c (.p2 17 (.slice (some ⟨b, off, none⟩) N cap) 18 (.int .i64 (i : Int))) <| .c (.p1 19 (.pointer (some ⟨b, off + i * 3, none⟩))) <| .c (.lc b (off + i * 3) (fun _ wq hk => keep.out wq hk c1.out) load_i64) <| .c (.p1 1 (.slice (some ⟨b', off', none⟩) N cap')) <| .c (.p1 5 (.int .i64 (i : Int))) <| .c (.p2 22 (.slice (some ⟨b', off', none⟩) N cap') 23 (.int .i64 (i : Int))) <| .c (.p1 24 (.pointer (some ⟨b', off' + i * 3, none⟩))) <| .c (.lc b' (off' + i * 3) (fun _ wq hk => keep'.out wq hk d1.out) load_i64) <| .c (.p2 21 (.int .i64 k) 26 (.int .i64 k')) <| .c (.p1 27 (.bool false)) <| .c (.p1 0 (.slice (some ⟨b, off, none⟩) N cap)) <| .c (.p1 5 (.int .i64 (i : Int))) <| .c (.p2 29 (.slice (some ⟨b, off, none⟩) N cap) 30 (.int .i64 (i : Int))) <| .c (.p1 31 (.pointer (some ⟨b, off + i * 3, none⟩))) <| .c (.lc b (off + i * 3 + 1) (fun _ wq hk => keep.out wq hk c2.out) load_i64) <| .c (.p1 1 (.slice (some ⟨b', off', none⟩) N cap')) <| .c (.p1 5 (.int .i64 (i : Int))) <| .c (.p2 34 (.slice (some ⟨b', off', none⟩) N cap') 35 (.int .i64 (i : Int))) <| .c (.p1 36 (.pointer (some ⟨b', off' + i * 3, none⟩))) <| .c (.lc b' (off' + i * 3 + 1) (fun _ wq hk => keep'.out wq hk d2.out) load_i64) <| .c (.p2 33 (.int .i64 n) 38 (.int .i64 n')) <| .c (.p2 28 (.bool false) 39 (.bool true)) <| .c (.p1 40 (.bool true)) <| .c (.ps) <| .c (.ps) <| .c (.ps) <| .c (.ps) <| .c (.ps) <| .c (.ps) <| .c (.ps) <| .c (.ps) <| .c (.ps) <| .c (.ps) <| .c (.ps) <| .c (.ps) <| .c (.p1 41 (.bool true)) <| .nil
          · intro vs V hJ hf
            have hBV := hJ.1.2
            have hbV := hb.trans (hBV.mono hb.size)
            simp only [putL, Lv.val, Act.put, List.setIfInBounds_toArray, List.set_cons_succ, List.set_cons_zero]
            go_wp2_with fail
            go_ret
            exact ⟨by rw [decide_eq_false hne.out]; rfl, hbV⟩
      · have e1 : (k == k') = false := beq_eq_false_iff_ne.2 hkk
        have e2 : (k != k') = true := by rw [bne, e1]; rfl
        have hne : Hid (l ≠ m) := fun e => by
          have h3 := ht.out
          rw [e, hu.out] at h3
          simp only [Option.some.injEq, Tk.mk.injEq] at h3
          exact hkk h3.1.symm
        go_upto_region 6 with fail
        refine wp_region_lv 55 (fun _ => []) [.v (.slice (some ⟨b, off, none⟩) N cap), .v (.int .i64 (i : Int)), .v (.pointer (some ⟨b, off + i * 3, none⟩)), .v (.pointer (some ⟨b, off + i * 3, none⟩)), .v (.int .i64 k), .v (.slice (some ⟨b', off', none⟩) N cap'), .v (.int .i64 (i : Int)), .v (.pointer (some ⟨b', off' + i * 3, none⟩)), .v (.pointer (some ⟨b', off' + i * 3, none⟩)), .v (.int .i64 k'), .v (.bool true), .v (.bool true), .v undef, .v undef, .v undef, .v undef, .v undef, .v undef, .v undef, .v undef, .v undef, .v undef, .v undef, .v (.bool true), .v (.bool true), .v undef, .v undef, .v undef, .v undef, .v undef, .v undef, .v undef, .v undef, .v undef, .v undef, .v undef, .v undef, .v (.bool true)] (Kp.nil wr) (by kernel_rfl) (by kernel_rfl) (by kernel_rfl) (by rfl) ?_ ?_
        · refine .c (.p1 0 (.slice (some ⟨b, off, none⟩) N cap)) <| .c (.p1 5 (.int .i64 (i : Int))) <| .c (.p2 17 (.slice (some ⟨b, off, none⟩) N cap) 18 (.int .i64 (i : Int))) <| .c (.p1 19 (.pointer (some ⟨b, off + i * 3, none⟩))) <| .c (.lc b (off + i * 3) (fun _ wq hk => keep.out wq hk c1.out) load_i64) <| .c (.p1 1 (.slice (some ⟨b', off', none⟩) N cap')) <| .c (.p1 5 (.int .i64 (i : Int))) <| .c (.p2 22 (.slice (some ⟨b', off', none⟩) N cap') 23 (.int .i64 (i : Int))) <| .c (.p1 24 (.pointer (some ⟨b', off' + i * 3, none⟩))) <| .c (.lc b' (off' + i * 3) (fun _ wq hk => keep'.out wq hk d1.out) load_i64) <| .c (.p2 21 (.int .i64 k) 26 (.int .i64 k')) <| .c (.p1 27 (.bool true)) <| .c (.ps) <| .c (.ps) <| .c (.ps) <| .c (.ps) <| .c (.ps) <| .c (.ps) <| .c (.ps) <| .c (.ps) <| .c (.ps) <| .c (.ps) <| .c (.ps) <| .c (.p1 28 (.bool true)) <| .c (.p1 40 (.bool true)) <| .c (.ps) <| .c (.ps) <| .c (.ps) <| .c (.ps) <| .c (.ps) <| .c (.ps) <| .c (.ps) <| .c (.ps) <| .c (.ps) <| .c (.ps) <| .c (.ps) <| .c (.ps) <| .c (.p1 41 (.bool true)) <| .nil
        · intro vs V hJ hf
          have hBV := hJ.1.2
          have hbV := hb.trans (hBV.mono hb.size)
          simp only [putL, Lv.val, Act.put, List.setIfInBounds_toArray, List.set_cons_succ, List.set_cons_zero]
          go_wp2_with fail
          go_ret
          exact ⟨by rw [decide_eq_false hne.out]; rfl, hbV⟩
    · have hki : ¬ (i : Int) < (N : Int) := by omega
      have hm : Hid (l = m) := toks_ext hll.out fun j hj => hs.out j (by have := HN.out; omega)
      go_wp2_with fail
      go_ret
      exact ⟨by rw [decide_eq_true hm.out]; rfl, hb⟩
set_option maxRecDepth 100000 in
set_option maxHeartbeats 1000000 in
/-- Too heavy a row is passed by. -/
theorem heavy_is {a : Option Addr} {cap : Nat} {l : List Tk} {w : World} (hm : Toks w a cap l) : Calls Tryd.prog 9 #[.slice a l.length cap] w fun e w' => (e = .returned (.bool true) ∨ e = .returned (.bool false) ∧ l.length ≤ 700 ∧ ∀ t ∈ l, t.b.length ≤ 300) ∧ w' = w := by
  have hlm : (l.length : Int) ≤ 9223372036854775807 := by have h3 := Nat.le_trans hm.1.2.1 hm.1.2.2.1; unfold maxLen at h3; omega
  by_cases h7 : 700 < l.length
  · have h7' : (700 : Int) < (l.length : Int) := by omega
    go_enter Tryd.func9, Tryd.ntmps9
    go_wp2_with fail
    go_ret
    exact ⟨.inl rfl, rfl⟩
  have h7' : ¬ (700 : Int) < (l.length : Int) := by omega
  clear hlm
  go_enter Tryd.func9, Tryd.ntmps9
  go_upto_region 4 with fail
  go_loop [3] (fun iv => ∃ i : Nat, i ≤ l.length ∧ iv = .int .i64 (i : Int) ∧ Hid (∀ j t, j < i → l[j]? = some t → t.b.length ≤ 300)) (fun iv => l.length - (intOf iv).toNat)
  case atStart => exact ⟨0, Nat.zero_le _, rfl, fun j t h => absurd h (Nat.not_lt_zero _)⟩
  case round =>
    obtain ⟨i, hi, rfl, hs⟩ := hrel
    have hi0 : (0 : Int) ≤ (i : Int) := by omega
    by_cases hlt : i < l.length
    · have hlt' : (i : Int) < (l.length : Int) := by omega
      obtain ⟨t, ht⟩ : ∃ t, Hid (l[i]? = some t) := ⟨_, List.getElem?_eq_getElem hlt⟩
      obtain ⟨b, off, rfl, hat⟩ := hm.1.at ht.out
      obtain ⟨c1, c2, _, c3, ⟨ta, tc, rfl, htx⟩, -⟩ := hat
      by_cases h3 : 300 < t.b.length
      · have h3' : (300 : Int) < (t.b.length : Int) := by omega
        go_wp2_with fail
        go_ret
        exact ⟨.inl rfl, rfl⟩
      · have h3' : ¬ (300 : Int) < (t.b.length : Int) := by omega
        go_wp2_with fail
        go_round
        case rel =>
          refine ⟨i + 1, hlt, by go_num, fun j t' hj ht' => ?_⟩
          rcases Nat.lt_or_ge j i with h | h
          · exact hs.out j t' h ht'
          · obtain rfl : j = i := by omega
            rw [ht.out] at ht'
            obtain rfl := Option.some.inj ht'
            omega
        case measure => simp [intOf]; omega
    · obtain rfl : i = l.length := by omega
      have hneg : ¬ (l.length : Int) < (l.length : Int) := by omega
      have hall : Hid (∀ t ∈ l, t.b.length ≤ 300) := fun t ht => by
        obtain ⟨j, hj, rfl⟩ := List.getElem_of_mem ht
        exact hs.out j _ hj (List.getElem?_eq_getElem hj)
      go_wp2_with fail
      go_ret
      exact ⟨.inr ⟨rfl, by omega, hall.out⟩, rfl⟩
end Go.Proofs.YtaabcllghniaoaaDoor
