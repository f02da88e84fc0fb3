/- Of the texts HW5, HW6: what the card of this claim reaches. -/
import Derived.Test.YtgibllaifnnfkaaGreatDoorXE21
import Derived.Deep.DeepCutAuto
import Derived.Deep.DrawnRows
namespace Go.Proofs.YtgibllaifnnfkaaGreatDoor.H
open Go.RowKit
attribute [local go_sem ↓] Go.wp_at_zero Go.wp_at_succ
def Tabs (w : World) : Prop := TabK w ∧ 1 < w.heap.size ∧ w.rangeAt 1 0 (stArr start).toList
def SliceOf (w : World) (g : Nat) (v : Value) (m : List Int) : Prop :=
  ∃ a len cap, v = .slice a len cap ∧ len = m.length ∧ len ≤ cap ∧ cap ≤ maxLen ∧ Bys m ∧ (0 < len → ∃ b off, a = some ⟨b, off, none⟩ ∧ b ≠ g ∧ w.rangeAt b off (u8s m))
def ShaAt (w : World) (g : Nat) (l : List Int) : Prop :=
  Bys l ∧ ∃ tl : List Int, tl.length = 128 ∧ Bys tl ∧ Own w g (shaArr (stOf l) tl l.length) 87 ∧ tl.take (l.length % 128) = rest l
theorem grown_setCells (b : Nat) : ∀ (vs : List Value) (o : Nat) (w : World), w.grownBy (w.setCells b o vs) (some b)
  | [], _, _ => ⟨rfl, rfl, rfl, Nat.le_refl _, fun _ _ _ => rfl⟩
  | v :: r, o, w => by rw [World.setCells]; exact grown_trans (grown_setCell w b o v) (grown_setCells b r (o + 1) _)
theorem grown_below {w w' : World} (h : Below w.heap.size w w') (r : Option Nat) : w.grownBy w' r := ⟨h.os, h.tape, h.output, h.size, fun k hk _ => h.block k hk⟩
theorem own_setSt {w : World} {g : Nat} {s : St} {tl : List Int} {n : Int} (h : Own w g (shaArr s tl n) 87) (s' : St) : Own (w.setCells g 0 (stArr s').toList) g (shaArr s' tl n) 87 := by
  rw [← shaArr_setSt s s' tl n]
  exact (((((((h.setCell _ _).setCell _ _).setCell _ _).setCell _ _).setCell _ _).setCell _ _).setCell _ _).setCell _ _
theorem Tabs.grown {w w' : World} {g : Nat} (h : Tabs w) (hg : w.grownBy w' (some g)) (h1 : 1 < g ∧ 7 < g) : Tabs w' := by
  obtain ⟨⟨k1, k2⟩, k3, k4⟩ := h
  refine ⟨⟨Nat.lt_of_lt_of_le k1 hg.size, fun i hi => ?_⟩, Nat.lt_of_lt_of_le k3 hg.size, ?_⟩
  · rw [World.cell?_of_block (w := w) (a := ⟨7, i, none⟩) (hg.block 7 k1 (by simp; omega))]; exact k2 i hi
  · intro j v hv
    rw [World.cell?_of_block (w := w) (a := ⟨1, 0 + j, none⟩) (hg.block 1 k3 (by simp; omega))]; exact k4 j v hv
theorem range_grown {w w' : World} {b o g : Nat} {cs : List Value} (h : w.rangeAt b o cs) (hg : w.grownBy w' (some g)) (hb : b ≠ g) : w'.rangeAt b o cs := fun j v hv => by
  have h1 := h j v hv
  rw [World.cell?_of_block (w := w) (hg.block b (World.block_lt_of_cell? w _ h1) (by simpa using hb))]; exact h1
theorem range_part {w : World} {b o : Nat} {m : List Int} (h : w.rangeAt b o (u8s m)) (k n : Nat) : w.rangeAt b (o + k) (u8s ((m.drop k).take n)) := fun j v hv => by
  rw [Nat.add_assoc]
  refine h (k + j) v ?_
  simp only [u8s, List.getElem?_map, List.getElem?_take, List.getElem?_drop] at hv ⊢
  split at hv
  · exact hv
  · simp at hv
theorem u8s_one (m : List Int) : ∀ v ∈ u8s m, v.oneCell' = true := fun v hv => by obtain ⟨x, _, rfl⟩ := List.mem_map.1 hv; rfl
theorem bytes_of_range {w : World} {b o n : Nat} {m : List Int} (h : w.rangeAt b o (u8s m)) (bm : Bys m) (hn : n ≤ m.length) : BytesAt w b o n (fun i => m.getD i 0) := fun i hi => by
  have hlt : i < m.length := by omega
  have e : m.getD i 0 = m[i] := by simp [List.getD, hlt]
  refine ⟨h i _ (by simp [u8s, hlt]), ?_⟩
  show 0 ≤ m.getD i 0 ∧ m.getD i 0 < 256
  rw [e]; exact bm _ (List.getElem_mem hlt)
theorem mix_lit (b off len cap : Nat) (f : Nat → Int) (s : St) (w : World) (hl : 128 ≤ len) (hc : len ≤ cap) (hcap : cap ≤ maxLen) (hb : BytesAt w b off 128 f) (hT : TabK w) :
    Calls Tryz.prog 94 #[.agg #[.int .u64 s.a, .int .u64 s.b, .int .u64 s.c, .int .u64 s.d, .int .u64 s.e, .int .u64 s.f, .int .u64 s.g, .int .u64 s.h], .slice (some ⟨b, off, none⟩) len cap] w fun e w' => ∃ r : St, e = .returned (.agg #[.int .u64 r.a, .int .u64 r.b, .int .u64 r.c, .int .u64 r.d, .int .u64 r.e, .int .u64 r.f, .int .u64 r.g, .int .u64 r.h]) ∧ Hid (r = mixS s f) ∧ Below w.heap.size w w' :=
  (mix_any b off len cap f s w hl hc hcap hb hT).mono fun _ _ ⟨h1, h2⟩ => ⟨mixS s f, h1, rfl, h2⟩
theorem shaAt_part {W : World} {g : Nat} (l m tl : List Int) (htl : tl.length = 128) (btl : Bys tl) (hrest : tl.take (l.length % 128) = rest l) (bl : Bys l) (bm : Bys m) (hs : l.length % 128 + m.length < 128)
    (ho : Own W g (shaArr (stOf l) (tl.take (l.length % 128) ++ (m ++ tl.drop (l.length % 128 + m.length))) ((l.length : Int) + m.length)) 87) : ShaAt W g (l ++ m) := by
  refine ⟨fun x hx => (List.mem_append.1 hx).elim (bl x) (bm x), _, ?_, ?_, by rw [List.length_append, Int.natCast_add, stOf_small l m hs]; exact ho, ?_⟩
  · simp; omega
  · intro x hx
    rcases List.mem_append.1 hx with h | h
    · exact btl x (List.mem_of_mem_take h)
    · rcases List.mem_append.1 h with h | h
      · exact bm x h
      · exact btl x (List.mem_of_mem_drop h)
  · rw [rest_small l m hs, hrest, ← List.append_assoc, List.take_append_of_le_length (by simp [rest_length]; omega), List.take_of_length_le (by simp [rest_length]; omega)]
theorem sha_facts {w : World} {g : Nat} {s : St} {tl : List Int} {n : Int} (h : Own w g (shaArr s tl n) 87) :
    w.cell? ⟨g, 0, none⟩ = some (.int .u64 s.a) ∧ w.cell? ⟨g, 1, none⟩ = some (.int .u64 s.b) ∧ w.cell? ⟨g, 2, none⟩ = some (.int .u64 s.c) ∧ w.cell? ⟨g, 3, none⟩ = some (.int .u64 s.d) ∧ w.cell? ⟨g, 4, none⟩ = some (.int .u64 s.e) ∧ w.cell? ⟨g, 5, none⟩ = some (.int .u64 s.f) ∧ w.cell? ⟨g, 6, none⟩ = some (.int .u64 s.g) ∧ w.cell? ⟨g, 7, none⟩ = some (.int .u64 s.h) ∧
    (∀ i, w.frozen? ⟨g, i, none⟩ = false) :=
  ⟨h.cell rfl, h.cell rfl, h.cell rfl, h.cell rfl, h.cell rfl, h.cell rfl, h.cell rfl, h.cell rfl, h.frozen⟩
theorem setSt_facts {w : World} {g : Nat} {s : St} {tl : List Int} {n : Int} (h : Own w g (shaArr s tl n) 87) (r : St) :
    ∃ w5, w5 = (((((((w.setCell ⟨g, 0, none⟩ (.int .u64 r.a)).setCell ⟨g, 1, none⟩ (.int .u64 r.b)).setCell ⟨g, 2, none⟩ (.int .u64 r.c)).setCell ⟨g, 3, none⟩ (.int .u64 r.d)).setCell ⟨g, 4, none⟩ (.int .u64 r.e)).setCell ⟨g, 5, none⟩ (.int .u64 r.f)).setCell ⟨g, 6, none⟩ (.int .u64 r.g)).setCell ⟨g, 7, none⟩ (.int .u64 r.h) ∧
      Own w5 g (shaArr r tl n) 87 ∧ w.grownBy w5 (some g) := ⟨_, rfl, own_setSt h r, grown_setCells g (stArr r).toList 0 w⟩
def sliceLen : Value → Nat | .slice _ n _ => n | _ => 0
theorem info5s : (Tryz.prog.info? 5).map (·.size) = some 1 := by kernel_rfl
set_option maxRecDepth 100000 in
set_option maxHeartbeats 4000000 in
theorem write_any (g : Nat) (l m : List Int) (a : Option Addr) (len cap : Nat) (w : World) (hS : ShaAt w g l) (hm : SliceOf w g (.slice a len cap) m) (hT : Tabs w) (hg : 1 < g ∧ 7 < g) (hn : l.length + m.length ≤ 1099511627776) :
    Calls Tryz.prog 56 #[.pointer (some ⟨g, 0, none⟩), .slice a len cap] w fun e w' => e = .returned (.tuple #[]) ∧ ShaAt w' g (l ++ m) ∧ w.grownBy w' (some g) := by
  obtain ⟨bl, tl, htl, btl, ho, hrest⟩ := hS
  obtain ⟨a', len', cap', hv, hlen, hlc, hcm, bm, hmem⟩ := hm
  simp only [Value.slice.injEq] at hv
  obtain ⟨rfl, rfl, rfl⟩ := hv
  subst hlen
  have c136 := ho.cell (shaArr_len (stOf l) tl l.length htl)
  have f136 := ho.frozen 136
  have hi1 : (l.length : Int) ≤ 1099511627776 := by omega
  have hi2 : (m.length : Int) ≤ 1099511627776 := by omega
  go_enter Tryz.func56, Tryz.ntmps56
  go_upto_if 21 with fail
  have ho2 := ho.setCell 136 (.int .i64 ((l.length : Int) + m.length))
  rw [shaArr_setLen _ _ _ _ htl] at ho2
  have hgr2 := (grown_setCell w g 136 (.int .i64 ((l.length : Int) + m.length)))
  generalize w.setCell ⟨g, 136, none⟩ (.int .i64 ((l.length : Int) + m.length)) = W at *
  clear c136 f136 ho
  obtain ⟨h, hh1, Hh⟩ : ∃ h : Nat, (l.length : Int) % 128 = (h : Int) ∧ Hid (h = l.length % 128) := ⟨l.length % 128, by omega, rfl⟩
  have hh128 : h < 128 := by have := Hh.out; omega
  rw [hh1]
  clear hh1
  go_cut [1] (fun v wx => ∃ (k : Nat) (a' : Option Addr) (cap' : Nat) (tl' : List Int), v = .slice a' (m.length - k) cap' ∧ k ≤ m.length ∧ m.length - k ≤ cap' ∧ cap' ≤ maxLen ∧ (l.length + k) % 128 = 0 ∧ tl'.length = 128 ∧ Bys tl' ∧ Own wx g (shaArr (stOf (l ++ m.take k)) tl' ((l.length : Int) + m.length)) 87 ∧ w.grownBy wx (some g) ∧ (0 < m.length - k → ∃ b off, a' = some ⟨b, off + k, none⟩ ∧ b ≠ g ∧ w.rangeAt b off (u8s m)))
  case first =>
    by_cases hh : h = 0
    · have hz : ¬ (0 : Int) < (h : Int) := by omega
      have hl0 : l.length % 128 = 0 := by rw [← Hh.out]; exact hh
      clear hh
      go_wp2_with fail
      go_meet
      exact ⟨0, a, cap, tl, rfl, by omega, hlc, hcm, by omega, htl, btl, by simpa using ho2, hgr2, by simpa using hmem⟩
    · obtain ⟨n, Hn⟩ : ∃ n : Nat, Hid (n = Nat.min m.length (128 - h)) := ⟨_, rfl⟩
      have hn64 : n ≤ 128 - h := by rw [Hn.out]; exact Nat.min_le_right _ _
      have hnm : n ≤ m.length := by rw [Hn.out]; exact Nat.min_le_left _ _
      have hcs : (u8s (m.take n)).length = n := by simp [u8s]; omega
      have hh0 : 0 < h := by omega
      have hh0' : (0 : Int) < (h : Int) := by omega
      have hh128' : (h : Int) ≤ 128 := by omega
      have hpos : 0 < n → (some ⟨g, 8 + h, none⟩ : Option Addr) = some ⟨g, 8 + h, none⟩ ∧ ∃ b o, a = some ⟨b, o, none⟩ ∧ W.rangeAt b o (u8s (m.take n)) := fun hp => by
        obtain ⟨b, off, e, hb, hr⟩ := hmem (by omega)
        exact ⟨rfl, b, off, e, by simpa using range_grown (range_part hr 0 n) hgr2 hb⟩
      have hfit : 8 + h + n ≤ (shaL (stOf l) tl ((l.length : Int) + m.length)).length := by
        have := shaArr_size (stOf l) tl ((l.length : Int) + m.length) htl
        simp only [shaArr, List.size_toArray] at this
        omega
      have HP := show Hid _ from hpos
      have HC := show Hid _ from hcs
      clear hpos hcs
      clear hh
      go_wp2_with (refine wpList_copy_into (by rfl) (.tmp 26) (.tmp 27) 23 23 (by rfl) 5 Tryz.underlying23 info5s (some ⟨g, 8 + h, none⟩) a (128 - h) (128 - h) m.length cap (by rfl) (by rfl) g (8 + h) n (shaL (stOf l) tl ((l.length : Int) + m.length)) 87 ho2 (u8s (m.take n)) HC.out Hn.out HP.out hfit (u8s_one _) ?_; intro w1 ho3 hg3)
      · rename_i hlt
        have hnm' : n = m.length := by have := Hn.out; simp only [Nat.min_def] at this; split at this <;> omega
        subst hnm'
        rw [List.take_length, shaL_splice _ _ _ _ _ (by omega)] at ho3
        rw [Hh.out] at ho3
        refine bodyPost_ret (results_none rfl _ _ _) rfl ⟨rfl, shaAt_part l m tl htl btl hrest bl bm (by have := Hh.out; omega) ho3, grown_trans hgr2 hg3⟩
      · have hn' : h + n = 128 := by omega
        obtain ⟨b, off, rfl, hb, hr⟩ := hmem (by omega)
        have hncap : (n : Int) ≤ (cap : Int) := by omega
        have hnmi : (n : Int) ≤ (m.length : Int) := by omega
        have htn : (m.take n).length = n := by simp; omega
        rw [shaL_splice _ _ _ _ _ (by rw [htn]; omega), htn, hn', List.drop_of_length_le (by omega), List.append_nil] at ho3
        have Htn := show Hid _ from htn
        clear htn
        have e1 : tl.take h ++ m.take n = rest l ++ m.take n := by rw [← hrest, Hh.out]
        rw [e1] at ho3
        obtain ⟨tl1, H1⟩ : ∃ tl1, Hid (tl1 = rest l ++ m.take n) := ⟨_, rfl⟩
        rw [← H1.out] at ho3
        have h1len : tl1.length = 128 := by rw [H1.out, List.length_append, rest_length, Htn.out, ← Hh.out]; exact hn'
        have b1 : Bys tl1 := by
          rw [H1.out]; intro x hx
          rcases List.mem_append.1 hx with hx | hx
          · exact bl x (List.mem_of_mem_drop hx)
          · exact bm x (List.mem_of_mem_take hx)
        clear e1
        have ho3 : Own w1 g (shaArr (stOf l) tl1 ((l.length : Int) + m.length)) 87 := ho3
        have hgr3 := grown_trans hgr2 hg3
        have hT3 := hT.grown hgr3 hg
        have hglt := ho3.lt
        obtain ⟨c0, c1, c2, c3, c4, c5, c6, c7, fz⟩ := sha_facts ho3
        have hby : BytesAt w1 g 8 128 (fun i => tl1.getD i 0) := fun i hi => by
          refine ⟨ho3.cell (shaArr_tail _ _ _ i (by omega)), ?_⟩
          have e : tl1.getD i 0 = tl1[i] := by simp [List.getD, h1len, hi]
          show 0 ≤ tl1.getD i 0 ∧ tl1.getD i 0 < 256
          rw [e]; exact b1 _ (List.getElem_mem (by omega))
        go_region_with (go_at_call 94; refine (mix_lit g 8 128 128 (fun i => tl1.getD i 0) (stOf l) _ (by decide) (by decide) (by decide) (by exact hby) (by exact hT3.1)).mono ?_; rintro e w2 ⟨r, rfl, Hr, hB⟩; have ho4 : Own w2 g (shaArr (stOf l) tl1 ((l.length : Int) + m.length)) 87 := Own.below (by exact ho3) hB (by exact hglt); obtain ⟨d0, d1, d2, d3, d4, d5, d6, d7, fz2⟩ := sha_facts ho4)
        obtain ⟨w5, hw5, ho5, hg5⟩ := setSt_facts ho4 r
        rw [← hw5]
        have hgr5 := grown_trans (grown_trans hgr3 (grown_below ((Below.refl _ w1).drew.trans hB) _)) hg5
        clear hw5 d0 d1 d2 d3 d4 d5 d6 d7 fz2 c0 c1 c2 c3 c4 c5 c6 c7 fz hB hg5 ho4 ho3 hby HP
        have hst5 : Hid (r = stOf (l ++ m.take n)) := by
          show r = _
          rw [stOf_fill l (m.take n) (by rw [Htn.out, ← Hh.out]; exact hn'), ← H1.out]; exact Hr.out
        go_wp2_with fail
        all_goals go_meet
        · exact ⟨n, _, 0, tl1, rfl, by omega, by omega, by decide, by have := Hh.out; omega, h1len, b1, by rw [← hst5.out]; exact ho5, hgr5, fun hp => absurd hp (by omega)⟩
        · exact ⟨n, _, cap - n, tl1, rfl, by omega, by omega, by omega, by have := Hh.out; omega, h1len, b1, by rw [← hst5.out]; exact ho5, hgr5, fun _ => ⟨b, off, rfl, hb, hr⟩⟩
  case rest =>
    clear ho2 hgr2 hrest htl btl hmem hlc hcm
    obtain ⟨k, a', cap', tl', rfl, hk, hkc, hcm, hal, htl, btl, ho, hgr, hmem⟩ := hcut
    go_wp2_with fail
    go_loopw [1] (fun v wx => ∃ (k : Nat) (a' : Option Addr) (cap' : Nat) (tl' : List Int), v = .slice a' (m.length - k) cap' ∧ k ≤ m.length ∧ m.length - k ≤ cap' ∧ cap' ≤ maxLen ∧ (l.length + k) % 128 = 0 ∧ tl'.length = 128 ∧ Bys tl' ∧ Own wx g (shaArr (stOf (l ++ m.take k)) tl' ((l.length : Int) + m.length)) 87 ∧ w.grownBy wx (some g) ∧ (0 < m.length - k → ∃ b off, a' = some ⟨b, off + k, none⟩ ∧ b ≠ g ∧ w.rangeAt b off (u8s m))) (fun v _ => sliceLen v)
    case atStart => exact ⟨k, a', cap', tl', rfl, hk, hkc, hcm, hal, htl, btl, ho, hgr, hmem⟩
    case round =>
      clear hk hkc hcm hal htl btl ho hgr hmem
      obtain ⟨k, a', cap', tl', rfl, hk, hkc, hcm, hal, htl, btl, ho, hgr, hmem⟩ := hrel
      by_cases hlt : 128 ≤ m.length - k
      · have hk64 : k + 128 ≤ m.length := by omega
        obtain ⟨b, off, rfl, hb, hr⟩ := hmem (by omega)
        clear hmem hlt
        have hT3 := hT.grown hgr hg
        have hglt := ho.lt
        obtain ⟨c0, c1, c2, c3, c4, c5, c6, c7, fz⟩ := sha_facts ho
        obtain ⟨q, Hq⟩ : ∃ q, Hid (q = m.length - k) := ⟨_, rfl⟩
        have hq64 : (128 : Int) ≤ (q : Int) := by rw [Hq.out]; omega
        have hqc : (128 : Int) ≤ (cap' : Int) := by omega
        have hq64' : 128 ≤ q := by omega
        have hqk : Hid (k + q = m.length) := by show k + q = m.length; rw [Hq.out]; omega
        rw [← Hq.out] at hkc
        obtain ⟨M, HM⟩ : ∃ M : List Int, Hid (M = (m.drop k).take 128) := ⟨_, rfl⟩
        have hMl : M.length = 128 := by rw [HM.out, List.length_take, List.length_drop]; omega
        have bM : Bys M := fun x hx => by rw [HM.out] at hx; exact bm x (List.mem_of_mem_drop (List.mem_of_mem_take hx))
        have hrM : wr.rangeAt b (off + k) (u8s M) := by rw [HM.out]; exact range_grown (range_part hr k 128) hgr hb
        have hby : BytesAt wr b (off + k) 128 (fun i => M.getD i 0) := bytes_of_range hrM bM (by omega)
        have hstM : Hid (stOf (l ++ m.take (k + 128)) = mixS (stOf (l ++ m.take k)) (fun i => M.getD i 0)) := by
          show stOf _ = _
          rw [← stOf_block _ M (by rw [List.length_append, List.length_take, Nat.min_eq_left hk]; exact hal) hMl, HM.out, List.append_assoc, ← List.take_add]
        have HK := show Hid (k + 128 ≤ m.length) from hk64
        clear hk hrM hk64
        rw [← Hq.out]
        generalize stOf (l ++ m.take k) = sk at *
        go_wp2_with fail
        go_region_with (go_at_call 94; refine (mix_lit b (off + k) 128 cap' (fun i => M.getD i 0) sk _ (by decide) (by omega) (by exact hcm) (by exact hby) (by exact hT3.1)).mono ?_; rintro e w2 ⟨r, rfl, Hr, hB⟩; have ho4 : Own w2 g (shaArr sk tl' ((l.length : Int) + m.length)) 87 := Own.below (by exact ho) hB (by exact hglt); obtain ⟨d0, d1, d2, d3, d4, d5, d6, d7, fz2⟩ := sha_facts ho4)
        obtain ⟨w5, hw5, ho5, hg5⟩ := setSt_facts ho4 r
        rw [← hw5]
        have hgr5 := grown_trans (grown_trans hgr (grown_below ((Below.refl _ wr).drew.trans hB) _)) hg5
        clear hw5 d0 d1 d2 d3 d4 d5 d6 d7 fz2 c0 c1 c2 c3 c4 c5 c6 c7 fz hB hg5 ho4 ho hby
        go_wp2_with fail
        go_roundw
        case rel =>
          have h1 := HK.out
          have h2 := hqk.out
          refine ⟨k + 128, _, _, tl', by rw [show m.length - (k + 128) = q - 128 from by omega], h1, by omega, by omega, by omega, htl, btl, by rw [hstM.out, ← Hr.out]; exact ho5, hgr5, fun hp => ⟨b, off, ?_, hb, hr⟩⟩
          rw [if_neg (by omega), Nat.add_assoc]
        case measure => simp [sliceLen]; omega
      · have hi0 : ¬ (128 : Int) ≤ ((m.length - k : Nat) : Int) := by omega
        have hfit : 8 + (m.length - k) ≤ (shaL (stOf (l ++ m.take k)) tl' ((l.length : Int) + m.length)).length := by
          have := shaArr_size (stOf (l ++ m.take k)) tl' ((l.length : Int) + m.length) htl
          simp only [shaArr, List.size_toArray] at this
          omega
        have hpos : 0 < m.length - k → (some ⟨g, 8, none⟩ : Option Addr) = some ⟨g, 8, none⟩ ∧ ∃ b o, a' = some ⟨b, o, none⟩ ∧ wr.rangeAt b o (u8s (m.drop k)) := fun hp => by
          obtain ⟨b, off, e, hb, hr⟩ := hmem hp
          refine ⟨rfl, b, off + k, e, ?_⟩
          have := range_grown (range_part hr k (m.drop k).length) hgr hb
          rwa [List.take_length] at this
        have HP := show Hid _ from hpos
        have HC : Hid ((u8s (m.drop k)).length = m.length - k) := by show _ = _; simp [u8s]
        have HN : Hid (m.length - k = Nat.min (m.length - k) 128) := by show _ = _; exact (Nat.min_eq_left (by omega)).symm
        clear hpos hmem
        go_wp2_with (refine wpList_copy_into (by rfl) (.tmp 66) (.tmp 67) 23 23 (by rfl) 5 Tryz.underlying23 info5s (some ⟨g, 8, none⟩) a' 128 128 (m.length - k) cap' (by rfl) (by rfl) g 8 (m.length - k) (shaL (stOf (l ++ m.take k)) tl' ((l.length : Int) + m.length)) 87 ho (u8s (m.drop k)) HC.out HN.out HP.out hfit (u8s_one _) ?_; intro w1 ho3 hg3)
        go_end0
        have hl' : (l ++ m.take k).length = l.length + k := by rw [List.length_append, List.length_take, Nat.min_eq_left hk]
        have hz : (l ++ m.take k).length % 128 = 0 := by rw [hl']; exact hal
        have e1 : (m.drop k).length = m.length - k := by simp
        have e2 : ((l ++ m.take k).length : Int) + ((m.drop k).length : Int) = (l.length : Int) + m.length := by rw [hl', e1]; omega
        rw [show (8 : Nat) = 8 + 0 from rfl, shaL_splice _ _ _ _ _ (by rw [e1]; omega)] at ho3
        have := shaAt_part (W := w1) (g := g) (l ++ m.take k) (m.drop k) tl' htl btl (by rw [hz, rest_whole _ hz]; rfl) (fun x hx => (List.mem_append.1 hx).elim (bl x) (fun h => bm x (List.mem_of_mem_take h))) (fun x hx => bm x (List.mem_of_mem_drop hx)) (by rw [hz, e1]; omega) (by rw [hz, e2]; exact ho3)
        rw [List.append_assoc, List.take_append_drop] at this
        exact ⟨rfl, this, grown_trans hgr hg3⟩
end Go.Proofs.YtgibllaifnnfkaaGreatDoor.H
namespace Go.Proofs.YtgibllaifnnfkaaGreatDoor.H
open Go.RowKit
def newText : Array Value := shaArr start (List.replicate 128 0) 0
def zeroText : Array Value := shaArr ⟨0, 0, 0, 0, 0, 0, 0, 0⟩ (List.replicate 128 0) 0
theorem zeroText_size : zeroText.size = 137 := shaArr_size _ _ _ (by simp)
theorem newText_size : newText.size = 137 := shaArr_size _ _ _ (by simp)
def z64 : Array Value := Array.replicate 64 (.int .u8 0)
theorem z64_size : z64.size = 64 := by simp [z64]
theorem zero39 : (Tryz.prog.info? 87).map (fun i => (i.zero, i.size)) = some (some (.agg zeroText), 137) := by kernel_rfl
theorem zero25 : (Tryz.prog.info? 24).map (fun i => (i.zero, i.size)) = some (some (.agg z64), 64) := by kernel_rfl
theorem info39 : (Tryz.prog.info? 87).map (·.size) = some 137 := by kernel_rfl
theorem info25 : (Tryz.prog.info? 24).map (·.size) = some 64 := by kernel_rfl
theorem shaArr_one (s : St) (tl : List Int) (n : Int) : (shaArr s tl n).all (·.oneCell') = true := all_oneCell_toArray fun v hv => by
  simp only [shaL, List.mem_cons, List.mem_append, List.not_mem_nil, or_false] at hv
  rcases hv with rfl | rfl | rfl | rfl | rfl | rfl | rfl | rfl | hv | rfl <;> first | rfl | exact u8s_one _ _ hv
theorem shaAt_new (w : World) (g : Nat) (ho : Own w g newText 87) : ShaAt w g [] :=
  ⟨fun _ h => by simp at h, _, by simp, fun x h => by obtain ⟨_, rfl⟩ := List.mem_replicate.1 h; decide, ho, rfl⟩
def BytesV (w : World) (a : Option Addr) (len cap : Nat) (m : List Int) : Prop :=
  len = m.length ∧ len ≤ cap ∧ cap ≤ maxLen ∧ Bys m ∧ (0 < len → ∃ b off, a = some ⟨b, off, none⟩ ∧ w.rangeAt b off (u8s m))
theorem BytesV.below {w w' : World} {a : Option Addr} {len cap : Nat} {m : List Int} (h : BytesV w a len cap m) (hB : Below w.heap.size w w') : BytesV w' a len cap m := by
  obtain ⟨h1, h2, h3, h4, h5⟩ := h
  refine ⟨h1, h2, h3, h4, fun hp => ?_⟩
  obtain ⟨b, off, e, hr⟩ := h5 hp
  exact ⟨b, off, e, fun j v hv => by
    have := hr j v hv
    rw [hB.cell (World.block_lt_of_cell? w _ this)]; exact this⟩
theorem range_lt {w : World} {b off : Nat} {m : List Int} (h : w.rangeAt b off (u8s m)) (hm : 0 < m.length) : b < w.heap.size :=
  World.block_lt_of_cell? w _ (h 0 (.int .u8 (m[0])) (by simp [u8s, hm]))
theorem BytesV.slice {w w' : World} {a : Option Addr} {len cap g : Nat} {m : List Int} (h : BytesV w a len cap m) (hB : Below w.heap.size w w') (hg : w.heap.size ≤ g) : SliceOf w' g (.slice a len cap) m := by
  have h' := h.below hB
  obtain ⟨h1, h2, h3, h4, h5⟩ := h'
  refine ⟨a, len, cap, rfl, h1, h2, h3, h4, fun hp => ?_⟩
  obtain ⟨b, off, e, hr⟩ := h5 hp
  obtain ⟨b', off', e', hr'⟩ := h.2.2.2.2 hp
  have hlt := range_lt hr' (by omega)
  rw [e] at e'
  simp only [Option.some.injEq, Addr.mk.injEq] at e'
  exact ⟨b, off, e, by omega, hr⟩
theorem Tabs.below {w w' : World} (h : Tabs w) (hB : Below w.heap.size w w') : Tabs w' := h.grown (g := w.heap.size) (grown_below hB _) ⟨h.2.1, h.1.1⟩
theorem ShaAt.below {w w' : World} {g B : Nat} {l : List Int} (h : ShaAt w g l) (hB : Below B w w') (hg : g < B) : ShaAt w' g l := by
  obtain ⟨bl, tl, htl, btl, ho, hrest⟩ := h
  exact ⟨bl, tl, htl, btl, ho.below hB hg, hrest⟩
theorem ShaAt.lt {w : World} {g : Nat} {l : List Int} (h : ShaAt w g l) : g < w.heap.size := by
  obtain ⟨bl, tl, htl, btl, ho, hrest⟩ := h
  exact ho.lt
theorem digest_length (l : List Int) : (digest l).length = 64 := by
  have := sumL_length (endSt l) 8 (by omega)
  rw [sumL_eight, u8s, List.length_map] at this; exact this
def dig (l : List Int) : Array Value := (u8s (digest l)).toArray
theorem dig_size (l : List Int) : (dig l).size = 64 := by rw [dig, List.size_toArray, u8s, List.length_map]; exact digest_length l
theorem dig_info (l : List Int) : (Tryz.prog.info? 24).map (·.size) = some (dig l).size := by rw [info25, dig_size]
theorem dig_one (l : List Int) : (dig l).all (·.oneCell') = true := all_oneCell_toArray (u8s_one _)
def RowsV (w : World) (a : Option Addr) (len cap : Nat) (ms : List (List Int)) : Prop :=
  len = ms.length ∧ len ≤ cap ∧ cap ≤ maxLen ∧ (0 < len → ∃ b off, a = some ⟨b, off, none⟩ ∧ ∀ i m, ms[i]? = some m → ∃ a' cap', w.cell? ⟨b, off + i, none⟩ = some (.slice a' m.length cap') ∧ BytesV w a' m.length cap' m ∧ (a' = none → cap' = 0))
theorem RowsV.below {w w' : World} {a : Option Addr} {len cap : Nat} {ms : List (List Int)} (h : RowsV w a len cap ms) (hB : Below w.heap.size w w') : RowsV w' a len cap ms := by
  obtain ⟨h1, h2, h3, h4⟩ := h
  refine ⟨h1, h2, h3, fun hp => ?_⟩
  obtain ⟨b, off, e, hr⟩ := h4 hp
  refine ⟨b, off, e, fun i m hm => ?_⟩
  obtain ⟨a', cap', hc, hv, hn⟩ := hr i m hm
  exact ⟨a', cap', by rw [hB.cell (World.block_lt_of_cell? w _ hc)]; exact hc, hv.below hB, hn⟩
theorem RowsV.at {w : World} {a : Option Addr} {len cap : Nat} {ms : List (List Int)} (h : RowsV w a len cap ms) (k : Nat) (hk : k < len) :
    ∃ b off m a' cap', a = some ⟨b, off, none⟩ ∧ ms[k]? = some m ∧ w.cell? ⟨b, off + k, none⟩ = some (.slice a' m.length cap') ∧ BytesV w a' m.length cap' m ∧ (a' = none → cap' = 0) := by
  obtain ⟨b, off, e, hr⟩ := h.2.2.2 (by omega)
  have hk' : k < ms.length := by rw [← h.1]; exact hk
  obtain ⟨a', cap', hc, hv, hn⟩ := hr k ms[k] (List.getElem?_eq_getElem hk')
  exact ⟨b, off, ms[k], a', cap', e, List.getElem?_eq_getElem hk', hc, hv, hn⟩
def upTo (ms : List (List Int)) (k : Nat) : List Int := (ms.take k).flatten
theorem upTo_succ (ms : List (List Int)) (k : Nat) (m : List Int) (h : ms[k]? = some m) : upTo ms (k + 1) = upTo ms k ++ m := by
  obtain ⟨hk, e⟩ := List.getElem?_eq_some_iff.1 h
  rw [upTo, upTo, List.take_succ_eq_append_getElem hk, e]; simp
theorem upTo_all (ms : List (List Int)) (k : Nat) (h : ms.length ≤ k) : upTo ms k = ms.flatten := by rw [upTo, List.take_of_length_le h]
theorem upTo_le (ms : List (List Int)) (k : Nat) : (upTo ms k).length ≤ ms.flatten.length := by
  have : ms.flatten = upTo ms k ++ (ms.drop k).flatten := by rw [upTo, ← List.flatten_append, List.take_append_drop]
  rw [this, List.length_append]; omega
theorem wpList_value {P : Program} {ops : Array Oper} {rest : List Oper} {op : Oper} {a : Act} {w : World} {Q : Exit → Act → World → Prop} (hgd : op.guard = none) (v : Value) (hrun : (execOp a.eval op).run P w = .ok (.value v) w)
    (h : wpList P ops Q rest (a.put op.dst v) w) : wpList P ops Q (op :: rest) a w :=
  wpList_plain hgd fun _ hK => by
    unfold Oper.wp
    rw [hrun]
    exact hK _ _ h
theorem wpList_build {P : Program} {ops : Array Oper} {rest : List Oper} {op : Oper} {a : Act} {w : World} {Q : Exit → Act → World → Prop} (hgd : op.guard = none) (t : TypeId) (fs : Array (Nat × Operand)) (_ho : op.op = .build t fs) (v : Value) (hrun : (execOp a.eval op).run P w = .ok (.value v) w)
    (h : wpList P ops Q rest (a.put op.dst v) w) : wpList P ops Q (op :: rest) a w := wpList_value hgd v hrun h
set_option maxRecDepth 100000 in
set_option maxHeartbeats 4000000 in
theorem sum_any (a : Option Addr) (len cap : Nat) (ms : List (List Int)) (w : World) (hR : RowsV w a len cap ms) (hT : Tabs w) (hn : ms.flatten.length ≤ 16000000) :
    Calls Tryz.prog 29 #[.slice a len cap] w fun e w' => e = .returned (.agg (dig ms.flatten)) ∧ Below w.heap.size w w' := by
  have hz := (zero_of_info zero39).1
  have hz2 := (zero_of_info zero25).1
  have hlM : len ≤ maxLen := Nat.le_trans hR.2.1 hR.2.2.1
  have hlm : (len : Int) ≤ 9223372036854775807 := by unfold maxLen at hlM; omega
  go_enter Tryz.func29, Tryz.ntmps29
  go_upto_region 1 with fail
  have oR := own_new w z64 24
  have hb1 := (Below.refl w.heap.size w).alloc (Nat.le_refl _) (.cells z64 24)
  have hlt1 : w.heap.size < (w.alloc (.cells z64 24)).heap.size := by simp
  have hT1 := hT.below hb1
  generalize w.alloc (.cells z64 24) = W1 at *
  go_upto_region 2 with (first
    | refine wpList_load_mid (by rfl) 80 (.global 1) (by rfl) 1 0 (by rfl) (stArr start).toList _ hT1.2.2 Tryz.underlying80 (by rfl) info36 ?_
    | refine wpList_store_new (by rfl) 87 (.tmp 3) (.tmp 10) (by rfl) _ newText (by rfl) (by rfl) (by rw [info39, newText_size]) (by rw [newText_size, zeroText_size]) (shaArr_one _ _ _) (by rfl) ?_
    | refine wpList_build (by rfl) 87 #[(0, .tmp 9)] (by rfl) (.agg newText) (by kernel_rfl) ?_)
  have oE := own_new W1 newText 87
  have oR := oR.alloc (.cells newText 87)
  have hb2 := hb1.alloc hb1.size (.cells newText 87)
  have hE : w.heap.size < W1.heap.size := hlt1
  generalize W1.alloc (.cells newText 87) = W2 at *
  have hS := shaAt_new W2 W1.heap.size oE
  generalize W1.heap.size = E at *
  have hg1 : 1 < E ∧ 7 < E := ⟨Nat.lt_trans hT.2.1 hE, Nat.lt_trans hT.1.1 hE⟩
  clear hz oE hT1
  go_wp2_with fail
  go_loopw [13] (fun i wr => ∃ k : Nat, k ≤ len ∧ i = .int .i64 k ∧ ShaAt wr E (upTo ms k) ∧ Own wr w.heap.size z64 24 ∧ Below w.heap.size w wr) (fun i _ => len - (intOf i).toNat)
  case atStart => exact ⟨0, Nat.zero_le _, rfl, hS, oR, hb2⟩
  case round =>
    clear hS oR hb2
    obtain ⟨k, hk, rfl, hS, oR, hb⟩ := hrel
    by_cases hkl : k < len
    · have hki : (k : Int) < (len : Int) := by omega
      have hk0 : (0 : Int) ≤ (k : Int) := by omega
      obtain ⟨b, off, m, a', cap', rfl, hm, hc, hv, -⟩ := hR.at k hkl
      have hc' : wr.cell? ⟨b, off + k, none⟩ = some (.slice a' m.length cap') := by rw [hb.cell (World.block_lt_of_cell? w _ hc)]; exact hc
      have hsl := hv.slice (g := E) hb (Nat.le_of_lt hE)
      have hus := upTo_succ ms k m hm
      have hul := upTo_le ms (k + 1)
      rw [hus, List.length_append] at hul
      have HU := show Hid _ from hus
      clear hus hc hm
      go_wp2_with fail
      refine (write_any E (upTo ms k) m _ _ _ _ hS hsl (hT.below hb) hg1 (by omega)).mono ?_
      rintro e w3 ⟨rfl, hS3, hg3⟩
      rw [← HU.out] at hS3
      go_wp2
      go_roundw
      case rel => exact ⟨k + 1, by omega, by go_num, hS3, by unfold Own; rw [hg3.block _ oR.lt (by simp; omega)]; exact oR, below_grown hb hg3 hb.size (by omega)⟩
      case measure => simp [intOf]; omega
    · have hki : ¬ (k : Int) < (len : Int) := by omega
      have hall : upTo ms k = ms.flatten := upTo_all ms k (by have := hR.1; omega)
      rw [hall] at hS
      clear hall
      obtain ⟨l, Hl⟩ : ∃ l, Hid (l = ms.flatten) := ⟨_, rfl⟩
      rw [← Hl.out] at hS hn
      obtain ⟨bl, tl, htl, btl, oE, hrest⟩ := hS
      have c136 := oE.cell (shaArr_len (stOf l) tl l.length htl)
      have hT2 := hT.below hb
      go_wp2_with fail
      refine (pad_any l.length _ (by omega)).mono ?_
      rintro e w3 ⟨rfl, oP, hb3⟩
      have hb23 := hb.trans (hb3.mono hb.size)
      have hT3 : Tabs w3 := hT.below hb23
      have hSE3 : ShaAt w3 E l := ⟨bl, tl, htl, btl, oE.below hb3 oE.lt, hrest⟩
      have hpl := padL_length l.length
      have hnt : noughts l.length ≤ 127 := by unfold noughts; omega
      have oR3 := oR.below hb3 oR.lt
      have hEl := oE.lt
      have hSl : SliceOf w3 E (.slice (some ⟨wr.heap.size, 0, none⟩) (padL l.length).length (padL l.length).length) (padL l.length) :=
        ⟨_, _, _, rfl, rfl, Nat.le_refl _, by rw [hpl]; unfold maxLen; omega, padL_bys _, fun _ => ⟨wr.heap.size, 0, rfl, by omega, by simpa using oP.range⟩⟩
      have hpn : Hid (l.length + (padL l.length).length ≤ 1099511627776) := by show _ ≤ _; rw [hpl]; omega
      clear c136 hpl
      go_wp2_with fail
      refine (write_any E l (padL l.length) _ _ _ _ hSE3 hSl hT3 hg1 hpn.out).mono ?_
      rintro e w4 ⟨rfl, hS4, hg4⟩
      have hb4 := below_grown hb23 hg4 hb23.size (by omega)
      have oR4 : Own w4 w.heap.size z64 24 := by unfold Own; rw [hg4.block _ oR3.lt (by simp; omega)]; exact oR3
      have hlt4 := oR4.lt
      obtain ⟨_, tl4, htl4, btl4, ho4, _⟩ := hS4
      obtain ⟨s4, HS4⟩ : ∃ s4, Hid (s4 = endSt l) := ⟨_, rfl⟩
      have ok4 : s4.ok := by rw [HS4.out]; exact stOf_ok _
      rw [show stOf (l ++ padL l.length) = s4 from HS4.out.symm] at ho4
      clear hSl hSE3 hT3 hT2 oR3 oP hb3 oE hb hb23 oR
      go_upto_region 9 with fail
      have oS := own_new w4 z64 24
      have ho5 := ho4.alloc (.cells z64 24)
      have oR5 := oR4.alloc (.cells z64 24)
      have hb5 := hb4.alloc hb4.size (.cells z64 24)
      generalize w4.alloc (.cells z64 24) = W5 at *
      clear oR4 hb4 ho4 hg4
      generalize w4.heap.size = M at *
      have hRM : w.heap.size ≠ M := by omega
      obtain ⟨c0, c1, c2, c3, c4, c5, c6, c7, fz⟩ := sha_facts ho5
      have oS : Own W5 M (sumL s4 0).toArray 24 := oS
      have hidx : ∀ (k : Nat) (v : Value), k < 8 → (stArr s4)[k]? = some v → ∀ w', (Instr.index 80 (.agg #[.int .u64 s4.a, .int .u64 s4.b, .int .u64 s4.c, .int .u64 s4.d, .int .u64 s4.e, .int .u64 s4.f, .int .u64 s4.g, .int .u64 s4.h]) (.int .i64 (k : Int))).run Tryz.prog w' = .ok v w' := fun k v hk hv w' => run_index_arr Tryz.underlying80 Tryz.underlying52 info35 (stArr s4) k v hk hv w'
      have HX := show Hid _ from hidx
      clear hidx
      go_wp2_with fail
      go_loopw [26] (fun i wr => ∃ k : Nat, k ≤ 8 ∧ i = .int .i64 k ∧ Own wr M (sumL s4 k).toArray 24 ∧ W5.grownBy wr (some M)) (fun i _ => 8 - (intOf i).toNat)
      case atStart => exact ⟨0, by omega, rfl, oS, grown_refl _ _⟩
      case round =>
        clear oS hk hkl hki
        obtain ⟨k, hk, rfl, oS, hgr⟩ := hrel
        by_cases hlt : k < 8
        · have hv : (stArr s4)[k]? = some (.int .u64 ((stWords s4).getD k 0)) := by
            rcases k with _ | _ | _ | _ | _ | _ | _ | _ | k
            all_goals first | rfl | omega
          have hidx := HX.out k _ hlt hv
          have hx : 0 ≤ (stWords s4).getD k 0 ∧ (stWords s4).getD k 0 < 18446744073709551616 := by
            obtain ⟨x0, x1, x2, x3, x4, x5, x6, x7⟩ := ok4
            rcases k with _ | _ | _ | _ | _ | _ | _ | _ | k
            all_goals first | assumption | omega
          obtain ⟨L1, L2, hL1, e1, e2⟩ := sumL_split s4 k hlt
          have HE1 := show Hid _ from e1
          have HE2 := show Hid _ from e2
          clear e1 e2
          generalize (stWords s4).getD k 0 = x at *
          have hki : (k : Int) < 8 := by omega
          have hk32 : (8 * (k : Int)) ≤ 64 := by omega
          have hk0 : (0 : Int) ≤ 8 * (k : Int) := by omega
          have hkn : ¬ (64 = 8 * k) := by omega
          go_wp2_with fail
          refine (putWord_own M (8 * k) _ _ x _ _ _ oS (by have := sumL_length s4 k hk; simp; omega) (by omega) (by omega) hx.1 hx.2).mono ?_
          rintro e w6 ⟨rfl, oS6, hg6⟩
          rw [HE1.out, put8_list _ _ _ _ hL1.symm, ← HE2.out] at oS6
          go_wp2
          go_roundw
          case rel => exact ⟨k + 1, by omega, by go_num, oS6, grown_trans hgr hg6⟩
          case measure => simp [intOf]; omega
        · have Hk : Hid (k = 8) := show k = 8 by omega
          have hsz : (sumL s4 k).toArray.size = 64 := by rw [List.size_toArray]; exact sumL_length s4 k hk
          have hi : (Tryz.prog.info? 24).map (·.size) = some (sumL s4 k).toArray.size := by rw [info25, hsz]
          have oR6 : Own wr w.heap.size z64 24 := by unfold Own; rw [hgr.block _ oR5.lt (by simpa using hRM)]; exact oR5
          have h1 : (sumL s4 k).toArray.all (·.oneCell') = true := all_oneCell_toArray fun v hv => by
            rcases List.mem_append.1 hv with h | h
            · exact u8s_one _ _ h
            · obtain ⟨_, rfl⟩ := List.mem_replicate.1 h; rfl
          have hb6 := below_grown hb5 hgr hb5.size (by omega)
          have Hd : Hid ((sumL s4 k).toArray = dig l) := by
            show _ = _
            rw [Hk.out, sumL_eight, HS4.out]; rfl
          generalize (sumL s4 k).toArray = A at *
          have hfit : 0 + A.size ≤ z64.size := by rw [hsz, z64_size]; decide
          go_upto_region 14 with fail
          go_wp2_with (first | refine wpList_load_own (by rfl) 24 (.tmp 6) (by rfl) M (by rfl) A _ oS Tryz.underlying24 (by rfl) hi ?_ | refine wpList_store_own (by rfl) 24 (.tmp 2) (.tmp 36) (by rfl) w.heap.size 0 A (by rfl) (by rfl) oR6 hfit hi h1 (by rfl) ?_)
          refine bodyPost_ret (results_own Tryz.results29 _ _ w.heap.size A _ rfl (own_setCells oR6 (by rw [hsz, z64_size])) Tryz.underlying24 rfl hi) rfl ⟨by rw [Hd.out, Hl.out], ?_⟩
          exact Below.setCells _ _ _ _ (Nat.le_refl _) hb6
end Go.Proofs.YtgibllaifnnfkaaGreatDoor.H
