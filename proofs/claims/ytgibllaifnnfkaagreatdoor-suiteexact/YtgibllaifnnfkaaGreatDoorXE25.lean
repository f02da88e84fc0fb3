/- Of the texts JW5, JW6, JW7, JK3, UH: what the card of this claim reaches. -/
import Derived.Test.YtgibllaifnnfkaaGreatDoorXE24
import Derived.Deep.DeepCutAuto
import Derived.Deep.DrawnRows
import Derived.Test.YtgibllaifnnfkaaGreatDoorXE23
import Derived.Test.YtgibllaifnnfkaaGreatDoorXE1
import Derived.Maps.AppendAt
import Derived.Laws.AppendOwnNone
namespace Go.Proofs.YtgibllaifnnfkaaGreatDoor.J
open Go.RowKit
attribute [local go_sem ↓] Go.wp_at_zero Go.wp_at_succ
def Tabs (w : World) : Prop := TabK w ∧ 3 < w.heap.size ∧ w.rangeAt 3 0 (stArr start).toList
def SliceOf (w : World) (g : Nat) (v : Value) (m : List Int) : Prop :=
  ∃ a len cap, v = .slice a len cap ∧ len = m.length ∧ len ≤ cap ∧ cap ≤ maxLen ∧ Bys m ∧ (0 < len → ∃ b off, a = some ⟨b, off, none⟩ ∧ b ≠ g ∧ w.rangeAt b off (u8s m))
def ShaAt (w : World) (g : Nat) (l : List Int) : Prop :=
  Bys l ∧ ∃ (s : St) (tl : List Int), tl.length = 64 ∧ Bys tl ∧ Own w g (shaArr s tl l.length) 120 ∧ (l ≠ [] → s = stOf l) ∧ tl.take (l.length % 64) = rest l
theorem grown_setCells (b : Nat) : ∀ (vs : List Value) (o : Nat) (w : World), w.grownBy (w.setCells b o vs) (some b)
  | [], _, _ => ⟨rfl, rfl, rfl, Nat.le_refl _, fun _ _ _ => rfl⟩
  | v :: r, o, w => by rw [World.setCells]; exact grown_trans (grown_setCell w b o v) (grown_setCells b r (o + 1) _)
theorem grown_refl (w : World) (r : Option Nat) : w.grownBy w r := ⟨rfl, rfl, rfl, Nat.le_refl _, fun _ _ _ => rfl⟩
theorem grown_below {w w' : World} (h : Below w.heap.size w w') (r : Option Nat) : w.grownBy w' r := ⟨h.os, h.tape, h.output, h.size, fun k hk _ => h.block k hk⟩
theorem own_setSt {w : World} {g : Nat} {s : St} {tl : List Int} {n : Int} (h : Own w g (shaArr s tl n) 120) (s' : St) : Own (w.setCells g 0 (stArr s').toList) g (shaArr s' tl n) 120 := by
  rw [← shaArr_setSt s s' tl n]
  exact (((((((h.setCell _ _).setCell _ _).setCell _ _).setCell _ _).setCell _ _).setCell _ _).setCell _ _).setCell _ _
theorem Tabs.grown {w w' : World} {g : Nat} (h : Tabs w) (hg : w.grownBy w' (some g)) (h1 : 3 < g ∧ 5 < g) : Tabs w' := by
  obtain ⟨⟨k1, k2⟩, k3, k4⟩ := h
  refine ⟨⟨Nat.lt_of_lt_of_le k1 hg.size, fun i hi => ?_⟩, Nat.lt_of_lt_of_le k3 hg.size, ?_⟩
  · rw [World.cell?_of_block (w := w) (a := ⟨5, i, none⟩) (hg.block 5 k1 (by simp; omega))]; exact k2 i hi
  · intro j v hv
    rw [World.cell?_of_block (w := w) (a := ⟨3, 0 + j, none⟩) (hg.block 3 k3 (by simp; omega))]; exact k4 j v hv
theorem range_grown {w w' : World} {b o g : Nat} {cs : List Value} (h : w.rangeAt b o cs) (hg : w.grownBy w' (some g)) (hb : b ≠ g) : w'.rangeAt b o cs := fun j v hv => by
  have h1 := h j v hv
  rw [World.cell?_of_block (w := w) (hg.block b (World.block_lt_of_cell? w _ h1) (by simpa using hb))]; exact h1
theorem range_part {w : World} {b o : Nat} {m : List Int} (h : w.rangeAt b o (u8s m)) (k n : Nat) : w.rangeAt b (o + k) (u8s ((m.drop k).take n)) := fun j v hv => by
  rw [Nat.add_assoc]
  refine h (k + j) v ?_
  simp only [u8s, List.getElem?_map, List.getElem?_take, List.getElem?_drop] at hv ⊢
  split at hv
  · exact hv
  · simp at hv
theorem u8s_one (m : List Int) : ∀ v ∈ u8s m, v.oneCell' = true := fun v hv => by obtain ⟨x, _, rfl⟩ := List.mem_map.1 hv; rfl
theorem bytes_of_range {w : World} {b o n : Nat} {m : List Int} (h : w.rangeAt b o (u8s m)) (bm : Bys m) (hn : n ≤ m.length) : BytesAt w b o n (fun i => m.getD i 0) := fun i hi => by
  have hlt : i < m.length := by omega
  have e : m.getD i 0 = m[i] := by simp [List.getD, hlt]
  refine ⟨h i _ (by simp [u8s, hlt]), ?_⟩
  show 0 ≤ m.getD i 0 ∧ m.getD i 0 < 256
  rw [e]; exact bm _ (List.getElem_mem hlt)
theorem mix_lit (b off len cap : Nat) (f : Nat → Int) (s : St) (w : World) (hl : 64 ≤ len) (hc : len ≤ cap) (hcap : cap ≤ maxLen) (hb : BytesAt w b off 64 f) (hT : TabK w) :
    Calls Tryz.prog 90 #[.agg #[.int .u32 s.a, .int .u32 s.b, .int .u32 s.c, .int .u32 s.d, .int .u32 s.e, .int .u32 s.f, .int .u32 s.g, .int .u32 s.h], .slice (some ⟨b, off, none⟩) len cap] w fun e w' => ∃ r : St, e = .returned (.agg #[.int .u32 r.a, .int .u32 r.b, .int .u32 r.c, .int .u32 r.d, .int .u32 r.e, .int .u32 r.f, .int .u32 r.g, .int .u32 r.h]) ∧ Hid (r = mixS s f) ∧ Below w.heap.size w w' :=
  (mix_any b off len cap f s w hl hc hcap hb hT).mono fun _ _ ⟨h1, h2⟩ => ⟨mixS s f, h1, rfl, h2⟩
theorem shaAt_part {W : World} {g : Nat} (l m tl : List Int) (htl : tl.length = 64) (btl : Bys tl) (hrest : tl.take (l.length % 64) = rest l) (bl : Bys l) (bm : Bys m) (hs : l.length % 64 + m.length < 64)
    (ho : Own W g (shaArr (stOf l) (tl.take (l.length % 64) ++ (m ++ tl.drop (l.length % 64 + m.length))) ((l.length : Int) + m.length)) 120) : ShaAt W g (l ++ m) := by
  refine ⟨fun x hx => (List.mem_append.1 hx).elim (bl x) (bm x), stOf l, _, ?_, ?_, by rw [List.length_append, Int.natCast_add]; exact ho, fun _ => (stOf_small l m hs).symm, ?_⟩
  · simp; omega
  · intro x hx
    rcases List.mem_append.1 hx with h | h
    · exact btl x (List.mem_of_mem_take h)
    · rcases List.mem_append.1 h with h | h
      · exact bm x h
      · exact btl x (List.mem_of_mem_drop h)
  · rw [rest_small l m hs, hrest, ← List.append_assoc, List.take_append_of_le_length (by simp [rest_length]; omega), List.take_of_length_le (by simp [rest_length]; omega)]
theorem sha_facts {w : World} {g : Nat} {s : St} {tl : List Int} {n : Int} (h : Own w g (shaArr s tl n) 120) :
    w.cell? ⟨g, 0, none⟩ = some (.int .u32 s.a) ∧ w.cell? ⟨g, 1, none⟩ = some (.int .u32 s.b) ∧ w.cell? ⟨g, 2, none⟩ = some (.int .u32 s.c) ∧ w.cell? ⟨g, 3, none⟩ = some (.int .u32 s.d) ∧ w.cell? ⟨g, 4, none⟩ = some (.int .u32 s.e) ∧ w.cell? ⟨g, 5, none⟩ = some (.int .u32 s.f) ∧ w.cell? ⟨g, 6, none⟩ = some (.int .u32 s.g) ∧ w.cell? ⟨g, 7, none⟩ = some (.int .u32 s.h) ∧
    (∀ i, w.frozen? ⟨g, i, none⟩ = false) :=
  ⟨h.cell rfl, h.cell rfl, h.cell rfl, h.cell rfl, h.cell rfl, h.cell rfl, h.cell rfl, h.cell rfl, h.frozen⟩
theorem setSt_facts {w : World} {g : Nat} {s : St} {tl : List Int} {n : Int} (h : Own w g (shaArr s tl n) 120) (r : St) :
    ∃ w5, w5 = (((((((w.setCell ⟨g, 0, none⟩ (.int .u32 r.a)).setCell ⟨g, 1, none⟩ (.int .u32 r.b)).setCell ⟨g, 2, none⟩ (.int .u32 r.c)).setCell ⟨g, 3, none⟩ (.int .u32 r.d)).setCell ⟨g, 4, none⟩ (.int .u32 r.e)).setCell ⟨g, 5, none⟩ (.int .u32 r.f)).setCell ⟨g, 6, none⟩ (.int .u32 r.g)).setCell ⟨g, 7, none⟩ (.int .u32 r.h) ∧
      Own w5 g (shaArr r tl n) 120 ∧ w.grownBy w5 (some g) := ⟨_, rfl, own_setSt h r, grown_setCells g (stArr r).toList 0 w⟩
def sliceLen : Value → Nat | .slice _ n _ => n | _ => 0
theorem info5s : (Tryz.prog.info? 5).map (·.size) = some 1 := by kernel_rfl
set_option maxRecDepth 100000 in
set_option maxHeartbeats 4000000 in
theorem write_any (g : Nat) (l m : List Int) (a : Option Addr) (len cap : Nat) (w : World) (hS : ShaAt w g l) (hm : SliceOf w g (.slice a len cap) m) (hT : Tabs w) (hg : 3 < g ∧ 5 < g) (hn : l.length + m.length ≤ 1099511627776) :
    Calls Tryz.prog 51 #[.pointer (some ⟨g, 0, none⟩), .slice a len cap] w fun e w' => e = .returned (.tuple #[]) ∧ ShaAt w' g (l ++ m) ∧ w.grownBy w' (some g) := by
  obtain ⟨bl, s, tl, htl, btl, ho, hst, hrest⟩ := hS
  obtain ⟨a', len', cap', hv, hlen, hlc, hcm, bm, hmem⟩ := hm
  simp only [Value.slice.injEq] at hv
  obtain ⟨rfl, rfl, rfl⟩ := hv
  subst hlen
  have c72 := ho.cell (shaArr_len s tl l.length htl)
  go_enter Tryz.func51, Tryz.ntmps51
  go_upto_if 10 with fail
  go_cut [] (fun wx => Own wx g (shaArr (stOf l) tl l.length) 120 ∧ w.grownBy wx (some g))
  case first =>
    by_cases h0 : l = []
    · have hz : ((l.length : Int) == 0) = true := by rw [h0]; rfl
      have hsl : stOf l = start := by rw [h0]; rfl
      have hsz := shaArr_size s tl l.length htl
      have Hz := show Hid _ from hsl
      clear hsl
      go_wp2_with (first | refine wpList_load_mid (by rfl) 66 (.global 3) (by rfl) 3 0 (by rfl) (stArr start).toList _ hT.2.2 Tryz.underlying66 (by rfl) info42 ?_ | refine wpList_store_own (by rfl) 66 (.tmp 14) (.tmp 12) (by rfl) g 0 (stArr start) (by rfl) (by rfl) ho (by rw [hsz]; decide) info42 (stArr_one _) (by rfl) ?_)
      go_meet
      exact ⟨by rw [Hz.out]; exact own_setSt ho start, grown_setCells _ _ _ _⟩
    · have hz : ((l.length : Int) == 0) = false := by
        have : l.length ≠ 0 := fun e => h0 (List.eq_nil_of_length_eq_zero e)
        simp; omega
      go_wp2_with fail
      go_meet
      exact ⟨by rw [← hst h0]; exact ho, grown_refl _ _⟩
  case rest =>
    clear c72 ho
    obtain ⟨ho, hgr⟩ := hcut
    have c72 := ho.cell (shaArr_len (stOf l) tl l.length htl)
    have f72 := ho.frozen 72
    have hi1 : (l.length : Int) ≤ 1099511627776 := by omega
    have hi2 : (m.length : Int) ≤ 1099511627776 := by omega
    go_upto_if 30 with fail
    have ho2 := ho.setCell 72 (.int .i64 ((l.length : Int) + m.length))
    rw [shaArr_setLen _ _ _ _ htl] at ho2
    have hgr2 := grown_trans hgr (grown_setCell wc g 72 (.int .i64 ((l.length : Int) + m.length)))
    generalize wc.setCell ⟨g, 72, none⟩ (.int .i64 ((l.length : Int) + m.length)) = W at *
    clear c72 f72 ho hgr
    obtain ⟨h, hh1, Hh⟩ : ∃ h : Nat, (l.length : Int) % 64 = (h : Int) ∧ Hid (h = l.length % 64) := ⟨l.length % 64, by omega, rfl⟩
    have hh64 : h < 64 := by have := Hh.out; omega
    rw [hh1]
    clear hh1
    go_cut [1] (fun v wx => ∃ (k : Nat) (a' : Option Addr) (cap' : Nat) (tl' : List Int), v = .slice a' (m.length - k) cap' ∧ k ≤ m.length ∧ m.length - k ≤ cap' ∧ cap' ≤ maxLen ∧ (l.length + k) % 64 = 0 ∧ tl'.length = 64 ∧ Bys tl' ∧ Own wx g (shaArr (stOf (l ++ m.take k)) tl' ((l.length : Int) + m.length)) 120 ∧ w.grownBy wx (some g) ∧ (0 < m.length - k → ∃ b off, a' = some ⟨b, off + k, none⟩ ∧ b ≠ g ∧ w.rangeAt b off (u8s m)))
    case first =>
      by_cases hh : h = 0
      · have hz : ¬ (0 : Int) < (h : Int) := by omega
        have hl0 : l.length % 64 = 0 := by rw [← Hh.out]; exact hh
        clear hh
        go_wp2_with fail
        go_meet
        exact ⟨0, a, cap, tl, rfl, by omega, hlc, hcm, by omega, htl, btl, by simpa using ho2, hgr2, by simpa using hmem⟩
      · obtain ⟨n, Hn⟩ : ∃ n : Nat, Hid (n = Nat.min m.length (64 - h)) := ⟨_, rfl⟩
        have hn64 : n ≤ 64 - h := by rw [Hn.out]; exact Nat.min_le_right _ _
        have hnm : n ≤ m.length := by rw [Hn.out]; exact Nat.min_le_left _ _
        have hcs : (u8s (m.take n)).length = n := by simp [u8s]; omega
        have hh0 : 0 < h := by omega
        have hh0' : (0 : Int) < (h : Int) := by omega
        have hh64' : (h : Int) ≤ 64 := by omega
        have hpos : 0 < n → (some ⟨g, 8 + h, none⟩ : Option Addr) = some ⟨g, 8 + h, none⟩ ∧ ∃ b o, a = some ⟨b, o, none⟩ ∧ W.rangeAt b o (u8s (m.take n)) := fun hp => by
          obtain ⟨b, off, e, hb, hr⟩ := hmem (by omega)
          exact ⟨rfl, b, off, e, by simpa using range_grown (range_part hr 0 n) hgr2 hb⟩
        have hfit : 8 + h + n ≤ (shaL (stOf l) tl ((l.length : Int) + m.length)).length := by
          have := shaArr_size (stOf l) tl ((l.length : Int) + m.length) htl
          simp only [shaArr, List.size_toArray] at this
          omega
        have HP := show Hid _ from hpos
        have HC := show Hid _ from hcs
        clear hpos hcs
        clear hh
        go_wp2_with (refine wpList_copy_into (by rfl) (.tmp 35) (.tmp 36) 23 23 (by rfl) 5 Tryz.underlying23 info5s (some ⟨g, 8 + h, none⟩) a (64 - h) (64 - h) m.length cap (by rfl) (by rfl) g (8 + h) n (shaL (stOf l) tl ((l.length : Int) + m.length)) 120 ho2 (u8s (m.take n)) HC.out Hn.out HP.out hfit (u8s_one _) ?_; intro w1 ho3 hg3)
        · rename_i hlt
          have hnm' : n = m.length := by have := Hn.out; simp only [Nat.min_def] at this; split at this <;> omega
          subst hnm'
          rw [List.take_length, shaL_splice _ _ _ _ _ (by omega)] at ho3
          rw [Hh.out] at ho3
          refine bodyPost_ret (results_none rfl _ _ _) rfl ⟨rfl, shaAt_part l m tl htl btl hrest bl bm (by have := Hh.out; omega) ho3, grown_trans hgr2 hg3⟩
        · have hn' : h + n = 64 := by omega
          obtain ⟨b, off, rfl, hb, hr⟩ := hmem (by omega)
          have hncap : (n : Int) ≤ (cap : Int) := by omega
          have hnmi : (n : Int) ≤ (m.length : Int) := by omega
          have htn : (m.take n).length = n := by simp; omega
          rw [shaL_splice _ _ _ _ _ (by rw [htn]; omega), htn, hn', List.drop_of_length_le (by omega), List.append_nil] at ho3
          have Htn := show Hid _ from htn
          clear htn
          have e1 : tl.take h ++ m.take n = rest l ++ m.take n := by rw [← hrest, Hh.out]
          rw [e1] at ho3
          obtain ⟨tl1, H1⟩ : ∃ tl1, Hid (tl1 = rest l ++ m.take n) := ⟨_, rfl⟩
          rw [← H1.out] at ho3
          have h1len : tl1.length = 64 := by rw [H1.out, List.length_append, rest_length, Htn.out, ← Hh.out]; exact hn'
          have b1 : Bys tl1 := by
            rw [H1.out]; intro x hx
            rcases List.mem_append.1 hx with hx | hx
            · exact bl x (List.mem_of_mem_drop hx)
            · exact bm x (List.mem_of_mem_take hx)
          clear e1
          have ho3 : Own w1 g (shaArr (stOf l) tl1 ((l.length : Int) + m.length)) 120 := ho3
          have hgr3 := grown_trans hgr2 hg3
          have hT3 := hT.grown hgr3 hg
          have hglt := ho3.lt
          obtain ⟨c0, c1, c2, c3, c4, c5, c6, c7, fz⟩ := sha_facts ho3
          have hby : BytesAt w1 g 8 64 (fun i => tl1.getD i 0) := fun i hi => by
            refine ⟨ho3.cell (shaArr_tail _ _ _ i (by omega)), ?_⟩
            have e : tl1.getD i 0 = tl1[i] := by simp [List.getD, h1len, hi]
            show 0 ≤ tl1.getD i 0 ∧ tl1.getD i 0 < 256
            rw [e]; exact b1 _ (List.getElem_mem (by omega))
          go_region_with (go_at_call 90; refine (mix_lit g 8 64 64 (fun i => tl1.getD i 0) (stOf l) _ (by decide) (by decide) (by decide) (by exact hby) (by exact hT3.1)).mono ?_; rintro e w2 ⟨r, rfl, Hr, hB⟩; have ho4 : Own w2 g (shaArr (stOf l) tl1 ((l.length : Int) + m.length)) 120 := Own.below (by exact ho3) hB (by exact hglt); obtain ⟨d0, d1, d2, d3, d4, d5, d6, d7, fz2⟩ := sha_facts ho4)
          obtain ⟨w5, hw5, ho5, hg5⟩ := setSt_facts ho4 r
          rw [← hw5]
          have hgr5 := grown_trans (grown_trans hgr3 (grown_below ((Below.refl _ w1).drew.trans hB) _)) hg5
          clear hw5 d0 d1 d2 d3 d4 d5 d6 d7 fz2 c0 c1 c2 c3 c4 c5 c6 c7 fz hB hg5 ho4 ho3 hby HP
          have hst5 : Hid (r = stOf (l ++ m.take n)) := by
            show r = _
            rw [stOf_fill l (m.take n) (by rw [Htn.out, ← Hh.out]; exact hn'), ← H1.out]; exact Hr.out
          go_wp2_with fail
          all_goals go_meet
          · exact ⟨n, _, 0, tl1, rfl, by omega, by omega, by decide, by have := Hh.out; omega, h1len, b1, by rw [← hst5.out]; exact ho5, hgr5, fun hp => absurd hp (by omega)⟩
          · exact ⟨n, _, cap - n, tl1, rfl, by omega, by omega, by omega, by have := Hh.out; omega, h1len, b1, by rw [← hst5.out]; exact ho5, hgr5, fun _ => ⟨b, off, rfl, hb, hr⟩⟩
    case rest =>
      clear ho2 hgr2 hrest htl btl hmem hlc hcm hst
      obtain ⟨k, a', cap', tl', rfl, hk, hkc, hcm, hal, htl, btl, ho, hgr, hmem⟩ := hcut
      go_wp2_with fail
      go_loopw [1] (fun v wx => ∃ (k : Nat) (a' : Option Addr) (cap' : Nat) (tl' : List Int), v = .slice a' (m.length - k) cap' ∧ k ≤ m.length ∧ m.length - k ≤ cap' ∧ cap' ≤ maxLen ∧ (l.length + k) % 64 = 0 ∧ tl'.length = 64 ∧ Bys tl' ∧ Own wx g (shaArr (stOf (l ++ m.take k)) tl' ((l.length : Int) + m.length)) 120 ∧ w.grownBy wx (some g) ∧ (0 < m.length - k → ∃ b off, a' = some ⟨b, off + k, none⟩ ∧ b ≠ g ∧ w.rangeAt b off (u8s m))) (fun v _ => sliceLen v)
      case atStart => exact ⟨k, a', cap', tl', rfl, hk, hkc, hcm, hal, htl, btl, ho, hgr, hmem⟩
      case round =>
        clear hk hkc hcm hal htl btl ho hgr hmem
        obtain ⟨k, a', cap', tl', rfl, hk, hkc, hcm, hal, htl, btl, ho, hgr, hmem⟩ := hrel
        by_cases hlt : 64 ≤ m.length - k
        · have hk64 : k + 64 ≤ m.length := by omega
          obtain ⟨b, off, rfl, hb, hr⟩ := hmem (by omega)
          clear hmem hlt
          have hT3 := hT.grown hgr hg
          have hglt := ho.lt
          obtain ⟨c0, c1, c2, c3, c4, c5, c6, c7, fz⟩ := sha_facts ho
          obtain ⟨q, Hq⟩ : ∃ q, Hid (q = m.length - k) := ⟨_, rfl⟩
          have hq64 : (64 : Int) ≤ (q : Int) := by rw [Hq.out]; omega
          have hqc : (64 : Int) ≤ (cap' : Int) := by omega
          have hq64' : 64 ≤ q := by omega
          have hqk : Hid (k + q = m.length) := by show k + q = m.length; rw [Hq.out]; omega
          rw [← Hq.out] at hkc
          obtain ⟨M, HM⟩ : ∃ M : List Int, Hid (M = (m.drop k).take 64) := ⟨_, rfl⟩
          have hMl : M.length = 64 := by rw [HM.out, List.length_take, List.length_drop]; omega
          have bM : Bys M := fun x hx => by rw [HM.out] at hx; exact bm x (List.mem_of_mem_drop (List.mem_of_mem_take hx))
          have hrM : wr.rangeAt b (off + k) (u8s M) := by rw [HM.out]; exact range_grown (range_part hr k 64) hgr hb
          have hby : BytesAt wr b (off + k) 64 (fun i => M.getD i 0) := bytes_of_range hrM bM (by omega)
          have hstM : Hid (stOf (l ++ m.take (k + 64)) = mixS (stOf (l ++ m.take k)) (fun i => M.getD i 0)) := by
            show stOf _ = _
            rw [← stOf_block _ M (by rw [List.length_append, List.length_take, Nat.min_eq_left hk]; exact hal) hMl, HM.out, List.append_assoc, ← List.take_add]
          have HK := show Hid (k + 64 ≤ m.length) from hk64
          clear hk hrM hk64
          rw [← Hq.out]
          generalize stOf (l ++ m.take k) = sk at *
          go_wp2_with fail
          go_region_with (go_at_call 90; refine (mix_lit b (off + k) 64 cap' (fun i => M.getD i 0) sk _ (by decide) (by omega) (by exact hcm) (by exact hby) (by exact hT3.1)).mono ?_; rintro e w2 ⟨r, rfl, Hr, hB⟩; have ho4 : Own w2 g (shaArr sk tl' ((l.length : Int) + m.length)) 120 := Own.below (by exact ho) hB (by exact hglt); obtain ⟨d0, d1, d2, d3, d4, d5, d6, d7, fz2⟩ := sha_facts ho4)
          obtain ⟨w5, hw5, ho5, hg5⟩ := setSt_facts ho4 r
          rw [← hw5]
          have hgr5 := grown_trans (grown_trans hgr (grown_below ((Below.refl _ wr).drew.trans hB) _)) hg5
          clear hw5 d0 d1 d2 d3 d4 d5 d6 d7 fz2 c0 c1 c2 c3 c4 c5 c6 c7 fz hB hg5 ho4 ho hby
          go_wp2_with fail
          go_roundw
          case rel =>
            have h1 := HK.out
            have h2 := hqk.out
            refine ⟨k + 64, _, _, tl', by rw [show m.length - (k + 64) = q - 64 from by omega], h1, by omega, by omega, by omega, htl, btl, by rw [hstM.out, ← Hr.out]; exact ho5, hgr5, fun hp => ⟨b, off, ?_, hb, hr⟩⟩
            rw [if_neg (by omega), Nat.add_assoc]
          case measure => simp [sliceLen]; omega
        · have hi0 : ¬ (64 : Int) ≤ ((m.length - k : Nat) : Int) := by omega
          have hfit : 8 + (m.length - k) ≤ (shaL (stOf (l ++ m.take k)) tl' ((l.length : Int) + m.length)).length := by
            have := shaArr_size (stOf (l ++ m.take k)) tl' ((l.length : Int) + m.length) htl
            simp only [shaArr, List.size_toArray] at this
            omega
          have hpos : 0 < m.length - k → (some ⟨g, 8, none⟩ : Option Addr) = some ⟨g, 8, none⟩ ∧ ∃ b o, a' = some ⟨b, o, none⟩ ∧ wr.rangeAt b o (u8s (m.drop k)) := fun hp => by
            obtain ⟨b, off, e, hb, hr⟩ := hmem hp
            refine ⟨rfl, b, off + k, e, ?_⟩
            have := range_grown (range_part hr k (m.drop k).length) hgr hb
            rwa [List.take_length] at this
          have HP := show Hid _ from hpos
          have HC : Hid ((u8s (m.drop k)).length = m.length - k) := by show _ = _; simp [u8s]
          have HN : Hid (m.length - k = Nat.min (m.length - k) 64) := by show _ = _; exact (Nat.min_eq_left (by omega)).symm
          clear hpos hmem
          go_wp2_with (refine wpList_copy_into (by rfl) (.tmp 75) (.tmp 76) 23 23 (by rfl) 5 Tryz.underlying23 info5s (some ⟨g, 8, none⟩) a' 64 64 (m.length - k) cap' (by rfl) (by rfl) g 8 (m.length - k) (shaL (stOf (l ++ m.take k)) tl' ((l.length : Int) + m.length)) 120 ho (u8s (m.drop k)) HC.out HN.out HP.out hfit (u8s_one _) ?_; intro w1 ho3 hg3)
          go_end0
          have hl' : (l ++ m.take k).length = l.length + k := by rw [List.length_append, List.length_take, Nat.min_eq_left hk]
          have hz : (l ++ m.take k).length % 64 = 0 := by rw [hl']; exact hal
          have e1 : (m.drop k).length = m.length - k := by simp
          have e2 : ((l ++ m.take k).length : Int) + ((m.drop k).length : Int) = (l.length : Int) + m.length := by rw [hl', e1]; omega
          rw [show (8 : Nat) = 8 + 0 from rfl, shaL_splice _ _ _ _ _ (by rw [e1]; omega)] at ho3
          have := shaAt_part (W := w1) (g := g) (l ++ m.take k) (m.drop k) tl' htl btl (by rw [hz, rest_whole _ hz]; rfl) (fun x hx => (List.mem_append.1 hx).elim (bl x) (fun h => bm x (List.mem_of_mem_take h))) (fun x hx => bm x (List.mem_of_mem_drop hx)) (by rw [hz, e1]; omega) (by rw [hz, e2]; exact ho3)
          rw [List.append_assoc, List.take_append_drop] at this
          exact ⟨rfl, this, grown_trans hgr hg3⟩
end Go.Proofs.YtgibllaifnnfkaaGreatDoor.J
namespace Go.Proofs.YtgibllaifnnfkaaGreatDoor.J
open Go.RowKit
def zeroSha : Array Value := shaArr ⟨0, 0, 0, 0, 0, 0, 0, 0⟩ (List.replicate 64 0) 0
theorem zeroSha_size : zeroSha.size = 73 := shaArr_size _ _ _ (by simp)
theorem zero47 : (Tryz.prog.info? 120).map (fun i => (i.zero, i.size)) = some (some (.agg zeroSha), 73) := by kernel_rfl
theorem info47 : (Tryz.prog.info? 120).map (·.size) = some 73 := by kernel_rfl
theorem info25 : (Tryz.prog.info? 22).map (·.size) = some 32 := by kernel_rfl
theorem shaArr_one (s : St) (tl : List Int) (n : Int) : (shaArr s tl n).all (·.oneCell') = true := all_oneCell_toArray fun v hv => by
  simp only [shaL, List.mem_cons, List.mem_append, List.not_mem_nil, or_false] at hv
  rcases hv with rfl | rfl | rfl | rfl | rfl | rfl | rfl | rfl | hv | rfl <;> first | rfl | exact u8s_one _ _ hv
set_option maxRecDepth 100000 in
set_option maxHeartbeats 2000000 in
theorem sumM_any (g : Nat) (l : List Int) (w : World) (hS : ShaAt w g l) (hT : Tabs w) (hn : l.length ≤ 549755813888) :
    Calls Tryz.prog 52 #[.pointer (some ⟨g, 0, none⟩)] w fun e w' => e = .returned (.agg (u8s (digest l)).toArray) ∧ Below w.heap.size w w' := by
  obtain ⟨bl, s, tl, htl, btl, ho, hst, hrest⟩ := hS
  have hz := (zero_of_info zero47).1
  have hsz := shaArr_size s tl l.length htl
  have hi : (Tryz.prog.info? 120).map (·.size) = some (shaArr s tl l.length).size := by rw [info47, hsz]
  go_enter Tryz.func52, Tryz.ntmps52
  go_upto_region 1 with fail
  have oR := own_new w (Array.replicate 32 (Value.int .u8 0)) 22
  have ho := ho.alloc (.cells (Array.replicate 32 (Value.int .u8 0)) 22)
  have hb1 := (Below.refl w.heap.size w).alloc (Nat.le_refl _) (.cells (Array.replicate 32 (Value.int .u8 0)) 22)
  have hlt1 : w.heap.size < (w.alloc (.cells (Array.replicate 32 (Value.int .u8 0)) 22)).heap.size := by simp
  generalize hW1 : w.alloc (.cells (Array.replicate 32 (Value.int .u8 0)) 22) = W1 at *
  rw [show w.alloc (.cells #[.int .u8 0, .int .u8 0, .int .u8 0, .int .u8 0, .int .u8 0, .int .u8 0, .int .u8 0, .int .u8 0, .int .u8 0, .int .u8 0, .int .u8 0, .int .u8 0, .int .u8 0, .int .u8 0, .int .u8 0, .int .u8 0, .int .u8 0, .int .u8 0, .int .u8 0, .int .u8 0, .int .u8 0, .int .u8 0, .int .u8 0, .int .u8 0, .int .u8 0, .int .u8 0, .int .u8 0, .int .u8 0, .int .u8 0, .int .u8 0, .int .u8 0, .int .u8 0] 22) = W1 from hW1]
  clear hW1
  have hg1 : 3 < W1.heap.size ∧ 5 < W1.heap.size := ⟨Nat.lt_of_lt_of_le hT.2.1 hb1.size, Nat.lt_of_lt_of_le hT.1.1 hb1.size⟩
  go_upto_region 2 with (first | refine wpList_load_own (by rfl) 120 (.tmp 8) (by rfl) g (by rfl) (shaArr s tl l.length) _ ho Tryz.underlying120 (by rfl) hi ?_ | refine wpList_store_new (by rfl) 120 (.tmp 3) (.tmp 9) (by rfl) _ (shaArr s tl l.length) (by rfl) (by rfl) hi (by rw [hsz, zeroSha_size]) (shaArr_one _ _ _) (by rfl) ?_)
  have oE := own_new W1 (shaArr s tl l.length) 120
  have ho := ho.alloc (.cells (shaArr s tl l.length) 120)
  have oR := oR.alloc (.cells (shaArr s tl l.length) 120)
  have hb2 := hb1.alloc hb1.size (.cells (shaArr s tl l.length) 120)
  have hlt2 : W1.heap.size < (W1.alloc (.cells (shaArr s tl l.length) 120)).heap.size := by simp
  generalize W1.alloc (.cells (shaArr s tl l.length) 120) = W2 at *
  generalize W1.heap.size = E at *
  have hSE : ShaAt W2 E l := ⟨bl, s, tl, htl, btl, oE, hst, hrest⟩
  have c72 := ho.cell (shaArr_len s tl l.length htl)
  have hT2 : Tabs W2 := hT.grown (g := E) (grown_below hb2 _) hg1
  go_wp2_with fail
  refine (pad_any l.length _ (by omega)).mono ?_
  rintro e w3 ⟨rfl, oP, hb3⟩
  have hb23 := hb2.trans (hb3.mono hb2.size)
  have hT3 : Tabs w3 := hT2.grown (g := E) (grown_below hb3 _) hg1
  have hSE3 : ShaAt w3 E l := ⟨bl, s, tl, htl, btl, oE.below hb3 hlt2, hst, hrest⟩
  have hpl := padL_length l.length
  have hnt : noughts l.length ≤ 63 := by unfold noughts; omega
  have oR3 := oR.below hb3 (by omega)
  have hSl : SliceOf w3 E (.slice (some ⟨W2.heap.size, 0, none⟩) (padL l.length).length (padL l.length).length) (padL l.length) :=
    ⟨_, _, _, rfl, rfl, Nat.le_refl _, by rw [hpl]; unfold maxLen; omega, padL_bys _ (by omega), fun _ => ⟨W2.heap.size, 0, rfl, by omega, by simpa using oP.range⟩⟩
  have hpn : Hid (l.length + (padL l.length).length ≤ 1099511627776) := by show _ ≤ _; rw [hpl]; omega
  clear c72 hpl
  go_wp2_with fail
  refine (write_any E l (padL l.length) _ _ _ _ hSE3 hSl hT3 hg1 hpn.out).mono ?_
  rintro e w4 ⟨rfl, hS4, hg4⟩
  have hb4 := below_grown hb23 hg4 hb23.size (by omega)
  have oR4 : Own w4 w.heap.size (Array.replicate 32 (.int .u8 0)) 22 := by unfold Own; rw [hg4.block _ (by have := hb23.size; have := oR3.lt; omega) (by simp; omega)]; exact oR3
  have hlt4 := oR4.lt
  obtain ⟨_, s4, tl4, htl4, btl4, ho4, hst4, _⟩ := hS4
  have hne : l ++ padL l.length ≠ [] := by simp [padL]
  have hs4 : s4 = endSt l := hst4 hne
  have HS4 := show Hid _ from hs4
  have ok4 : s4.ok := by rw [hs4]; exact stOf_ok _
  clear hs4 hst4 hSl hSE3 hT3 hT2 hSE oR3 oP hb3 oE ho hz hi hsz hb1 oR hb2 hb23
  go_upto_region 4 with fail
  have oS := own_new w4 (Array.replicate 32 (Value.int .u8 0)) 22
  have ho5 := ho4.alloc (.cells (Array.replicate 32 (Value.int .u8 0)) 22)
  have oR5 := oR4.alloc (.cells (Array.replicate 32 (Value.int .u8 0)) 22)
  have hb5 := hb4.alloc hb4.size (.cells (Array.replicate 32 (Value.int .u8 0)) 22)
  generalize hW5 : w4.alloc (.cells (Array.replicate 32 (Value.int .u8 0)) 22) = W5 at *
  rw [show w4.alloc (.cells #[.int .u8 0, .int .u8 0, .int .u8 0, .int .u8 0, .int .u8 0, .int .u8 0, .int .u8 0, .int .u8 0, .int .u8 0, .int .u8 0, .int .u8 0, .int .u8 0, .int .u8 0, .int .u8 0, .int .u8 0, .int .u8 0, .int .u8 0, .int .u8 0, .int .u8 0, .int .u8 0, .int .u8 0, .int .u8 0, .int .u8 0, .int .u8 0, .int .u8 0, .int .u8 0, .int .u8 0, .int .u8 0, .int .u8 0, .int .u8 0, .int .u8 0, .int .u8 0] 22) = W5 from hW5]
  clear hW5 oR4 hb4 ho4 hg4
  generalize w4.heap.size = M at *
  have hRM : w.heap.size ≠ M := by omega
  obtain ⟨c0, c1, c2, c3, c4, c5, c6, c7, fz⟩ := sha_facts ho5
  rw [← sumL_zero s4] at oS
  have hidx : ∀ (k : Nat) (v : Value), k < 8 → (stArr s4)[k]? = some v → ∀ w', (Instr.index 66 (.agg #[.int .u32 s4.a, .int .u32 s4.b, .int .u32 s4.c, .int .u32 s4.d, .int .u32 s4.e, .int .u32 s4.f, .int .u32 s4.g, .int .u32 s4.h]) (.int .i64 (k : Int))).run Tryz.prog w' = .ok v w' := fun k v hk hv w' => run_index_arr Tryz.underlying66 Tryz.underlying63 info39 (stArr s4) k v hk hv w'
  have HX := show Hid _ from hidx
  clear hidx
  go_wp2_with fail
  go_loopw [18] (fun i wr => ∃ k : Nat, k ≤ 8 ∧ i = .int .i64 k ∧ Own wr M (sumL s4 k).toArray 22 ∧ W5.grownBy wr (some M)) (fun i _ => 8 - (intOf i).toNat)
  case atStart => exact ⟨0, by omega, rfl, oS, grown_refl _ _⟩
  case round =>
    obtain ⟨k, hk, rfl, oS, hgr⟩ := hrel
    by_cases hlt : k < 8
    · have hv : (stArr s4)[k]? = some (.int .u32 ((stWords s4).getD k 0)) := by
        rcases k with _ | _ | _ | _ | _ | _ | _ | _ | k
        all_goals first | rfl | omega
      have hidx := HX.out k _ hlt hv
      have hx : 0 ≤ (stWords s4).getD k 0 ∧ (stWords s4).getD k 0 < 4294967296 := by
        obtain ⟨x0, x1, x2, x3, x4, x5, x6, x7⟩ := ok4
        rcases k with _ | _ | _ | _ | _ | _ | _ | _ | k
        all_goals first | assumption | omega
      obtain ⟨L1, L2, hL1, e1, e2⟩ := sumL_split s4 k hlt
      have HE1 := show Hid _ from e1
      have HE2 := show Hid _ from e2
      clear e1 e2
      generalize (stWords s4).getD k 0 = x at *
      have hki : (k : Int) < 8 := by omega
      have hk32 : (4 * (k : Int)) ≤ 32 := by omega
      have hk0 : (0 : Int) ≤ 4 * (k : Int) := by omega
      have hkn : ¬ (32 = 4 * k) := by omega
      go_wp2_with fail
      refine (putWord_own M (4 * k) _ _ x _ _ _ oS (by have := sumL_length s4 k hk; simp; omega) (by omega) (by omega) hx.1 hx.2).mono ?_
      rintro e w6 ⟨rfl, oS6, hg6⟩
      rw [HE1.out, put4_list _ _ _ _ _ _ _ _ hL1.symm, ← HE2.out] at oS6
      go_wp2
      go_roundw
      case rel => exact ⟨k + 1, by omega, by go_num, oS6, grown_trans hgr hg6⟩
      case measure => simp [intOf]; omega
    · have Hk : Hid (k = 8) := show k = 8 by omega
      have hsz : (sumL s4 k).toArray.size = 32 := by rw [List.size_toArray]; exact sumL_length s4 k hk
      have hi : (Tryz.prog.info? 22).map (·.size) = some (sumL s4 k).toArray.size := by rw [info25, hsz]
      have oR6 : Own wr w.heap.size (Array.replicate 32 (.int .u8 0)) 22 := by unfold Own; rw [hgr.block _ oR5.lt (by simpa using hRM)]; exact oR5
      have h1 : (sumL s4 k).toArray.all (·.oneCell') = true := all_oneCell_toArray fun v hv => by
        rcases List.mem_append.1 hv with h | h
        · exact u8s_one _ _ h
        · obtain ⟨_, rfl⟩ := List.mem_replicate.1 h; rfl
      have hb6 := below_grown hb5 hgr hb5.size (by omega)
      have Hd : Hid ((sumL s4 k).toArray = (u8s (digest l)).toArray) := by
        show _ = _
        rw [Hk.out, sumL_eight, HS4.out]; rfl
      generalize (sumL s4 k).toArray = A at *
      have hfit : 0 + A.size ≤ (Array.replicate 32 (Value.int .u8 0)).size := by rw [hsz, Array.size_replicate]; decide
      go_upto_region 9 with fail
      go_wp2_with (first | refine wpList_load_own (by rfl) 22 (.tmp 4) (by rfl) M (by rfl) A _ oS Tryz.underlying22 (by rfl) hi ?_ | refine wpList_store_own (by rfl) 22 (.tmp 2) (.tmp 28) (by rfl) w.heap.size 0 A (by rfl) (by rfl) oR6 hfit hi h1 (by rfl) ?_)
      refine bodyPost_ret (results_own Tryz.results52 _ _ w.heap.size A _ rfl (own_setCells oR6 (by rw [hsz, Array.size_replicate])) Tryz.underlying22 rfl hi) rfl ⟨by rw [Hd.out], ?_⟩
      exact Below.setCells _ _ _ _ (Nat.le_refl _) hb6
theorem shaAt_zero (w : World) (g : Nat) (ho : Own w g zeroSha 120) : ShaAt w g [] :=
  ⟨fun _ h => by simp at h, _, _, by simp, fun x h => by obtain ⟨_, rfl⟩ := List.mem_replicate.1 h; decide, ho, fun h => absurd rfl h, rfl⟩
set_option maxRecDepth 100000 in
theorem new_any (w : World) : Calls Tryz.prog 50 #[] w fun e w' => e = .returned (.pointer (some ⟨w.heap.size, 0, none⟩)) ∧ ShaAt w' w.heap.size [] ∧ Below w.heap.size w w' ∧ w.heap.size < w'.heap.size := by
  have hz := (zero_of_info zero47).1
  go_enter Tryz.func50, Tryz.ntmps50
  go_wp2
  go_ret
  exact ⟨rfl, shaAt_zero _ _ (own_new _ _ _), (Below.refl _ _).alloc (Nat.le_refl _) _, by simp⟩
end Go.Proofs.YtgibllaifnnfkaaGreatDoor.J
namespace Go.Proofs.YtgibllaifnnfkaaGreatDoor.J
open Go.RowKit
def BytesV (w : World) (a : Option Addr) (len cap : Nat) (m : List Int) : Prop :=
  len = m.length ∧ len ≤ cap ∧ cap ≤ maxLen ∧ Bys m ∧ (0 < len → ∃ b off, a = some ⟨b, off, none⟩ ∧ w.rangeAt b off (u8s m))
theorem BytesV.below {w w' : World} {a : Option Addr} {len cap : Nat} {m : List Int} (h : BytesV w a len cap m) (hB : Below w.heap.size w w') : BytesV w' a len cap m := by
  obtain ⟨h1, h2, h3, h4, h5⟩ := h
  refine ⟨h1, h2, h3, h4, fun hp => ?_⟩
  obtain ⟨b, off, e, hr⟩ := h5 hp
  exact ⟨b, off, e, fun j v hv => by
    have := hr j v hv
    rw [hB.cell (World.block_lt_of_cell? w _ this)]; exact this⟩
theorem range_lt {w : World} {b off : Nat} {m : List Int} (h : w.rangeAt b off (u8s m)) (hm : 0 < m.length) : b < w.heap.size :=
  World.block_lt_of_cell? w _ (h 0 (.int .u8 (m[0])) (by simp [u8s, hm]))
theorem BytesV.slice {w w' : World} {a : Option Addr} {len cap g : Nat} {m : List Int} (h : BytesV w a len cap m) (hB : Below w.heap.size w w') (hg : w.heap.size ≤ g) : SliceOf w' g (.slice a len cap) m := by
  have h' := h.below hB
  obtain ⟨h1, h2, h3, h4, h5⟩ := h'
  refine ⟨a, len, cap, rfl, h1, h2, h3, h4, fun hp => ?_⟩
  obtain ⟨b, off, e, hr⟩ := h5 hp
  obtain ⟨b', off', e', hr'⟩ := h.2.2.2.2 hp
  have hlt := range_lt hr' (by omega)
  rw [e] at e'
  simp only [Option.some.injEq, Addr.mk.injEq] at e'
  exact ⟨b, off, e, by omega, hr⟩
theorem Tabs.below {w w' : World} (h : Tabs w) (hB : Below w.heap.size w w') : Tabs w' := h.grown (g := w.heap.size) (grown_below hB _) ⟨h.2.1, h.1.1⟩
theorem ShaAt.below {w w' : World} {g B : Nat} {l : List Int} (h : ShaAt w g l) (hB : Below B w w') (hg : g < B) : ShaAt w' g l := by
  obtain ⟨bl, s, tl, htl, btl, ho, hst, hrest⟩ := h
  exact ⟨bl, s, tl, htl, btl, ho.below hB hg, hst, hrest⟩
theorem ShaAt.lt {w : World} {g : Nat} {l : List Int} (h : ShaAt w g l) : g < w.heap.size := by
  obtain ⟨bl, s, tl, htl, btl, ho, hst, hrest⟩ := h
  exact ho.lt
theorem digest_length (l : List Int) : (digest l).length = 32 := by
  have := sumL_length (endSt l) 8 (by omega)
  rw [sumL_eight, u8s, List.length_map] at this; exact this
end Go.Proofs.YtgibllaifnnfkaaGreatDoor.J
namespace Go.Proofs.YtgibllaifnnfkaaGreatDoor.J
open Go.RowKit
theorem BytesV.take {w : World} {a : Option Addr} {len cap : Nat} {m : List Int} (h : BytesV w a len cap m) (q : Nat) (hq : q ≤ len) : BytesV w a q cap (m.take q) := by
  obtain ⟨h1, h2, h3, h4, h5⟩ := h
  refine ⟨by simp; omega, by omega, h3, fun x hx => h4 x (List.mem_of_mem_take hx), fun hp => ?_⟩
  obtain ⟨b, off, e, hr⟩ := h5 (by omega)
  exact ⟨b, off, e, by simpa using range_part hr 0 q⟩
theorem BytesV.drop {w : World} {a : Option Addr} {len cap : Nat} {m : List Int} (h : BytesV w a len cap m) (q : Nat) (hq : q ≤ len) : BytesV w (cutAddr a cap q) (len - q) (cap - q) (m.drop q) := by
  obtain ⟨h1, h2, h3, h4, h5⟩ := h
  refine ⟨by simp; omega, by omega, by omega, fun x hx => h4 x (List.mem_of_mem_drop hx), fun hp => ?_⟩
  obtain ⟨b, off, e, hr⟩ := h5 (by omega)
  refine ⟨b, off + q, ?_, ?_⟩
  · rw [cutAddr, if_neg (by omega), e]; simp [Addr.add_mid]
  · have := range_part hr q (m.drop q).length
    rwa [List.take_length] at this
theorem ShaAt.grown {w w' : World} {g b : Nat} {l : List Int} (h : ShaAt w b l) (hg : w.grownBy w' (some g)) (hb : b ≠ g) : ShaAt w' b l := by
  obtain ⟨bl, s, tl, htl, btl, ho, hst, hrest⟩ := h
  exact ⟨bl, s, tl, htl, btl, ho.grown hg hb, hst, hrest⟩
def dig (l : List Int) : Array Value := (u8s (digest l)).toArray
theorem dig_size (l : List Int) : (dig l).size = 32 := by rw [dig, List.size_toArray, u8s, List.length_map]; exact digest_length l
theorem dig_info (l : List Int) : (Tryz.prog.info? 22).map (·.size) = some (dig l).size := by rw [info25, dig_size]
theorem dig_one (l : List Int) : (dig l).all (·.oneCell') = true := all_oneCell_toArray (u8s_one _)
theorem bel {w a b : World} (h : Below w.heap.size w a) (k : Below a.heap.size a b) : Below w.heap.size w b := h.trans (k.mono h.size)
theorem belg {w a b : World} {g : Nat} (h : Below w.heap.size w a) (k : a.grownBy b (some g)) (hg : w.heap.size ≤ g) : Below w.heap.size w b := below_grown h k h.size hg
def OwnBytes (w : World) (base : Nat) (v : Value) (xs : List Int) : Prop := w.ownsRow base 5 1 v xs.length (u8s xs)
theorem OwnBytes.form {w : World} {base : Nat} {v : Value} {xs : List Int} (h : OwnBytes w base v xs) (hx : Bys xs) : ∃ a cap, v = .slice a xs.length cap ∧ BytesV w a xs.length cap xs := by
  obtain ⟨h1, ⟨h2, h3⟩ | ⟨g, cap, cur, h2, h3, h4, h5, h6, h7, h8⟩⟩ := h
  · obtain rfl := List.eq_nil_of_length_eq_zero h3
    exact ⟨none, 0, h2, rfl, Nat.le_refl _, by decide, fun x hx => by simp at hx, fun hp => absurd hp (by decide)⟩
  · refine ⟨some ⟨g, 0, none⟩, cap, h2, rfl, h5, h6, hx, fun _ => ⟨g, 0, rfl, fun j v hv => ?_⟩⟩
    rw [Nat.zero_add, cell_of_row w g j cur 5 (0, 0) h4, ← hv, ← h8]
    have hj : j < xs.length := by
      have := (List.getElem?_eq_some_iff.1 hv).1
      simpa [u8s] using this
    rw [List.getElem?_take, if_pos (by omega)]; simp
theorem OwnBytes.grown {w w' : World} {base g : Nat} {v : Value} {xs : List Int} (h : OwnBytes w base v xs) (hg : w.grownBy w' (some g)) (hb : g < base) : OwnBytes w' base v xs := by
  obtain ⟨h1, h2 | ⟨g', cap, cur, h2, h3, h4, h5⟩⟩ := h
  · exact ⟨h1, .inl h2⟩
  · refine ⟨h1, .inr ⟨g', cap, cur, h2, h3, ?_, h5⟩⟩
    rw [hg.block g' (Array.getElem?_eq_some_iff.1 h4).1 (by simp; omega)]; exact h4
theorem OwnBytes.below {w w' : World} {base : Nat} {v : Value} {xs : List Int} (h : OwnBytes w base v xs) (hB : Below w.heap.size w w') : OwnBytes w' base v xs := by
  obtain ⟨h1, h2 | ⟨g', cap, cur, h2, h3, h4, h5⟩⟩ := h
  · exact ⟨h1, .inl h2⟩
  · refine ⟨h1, .inr ⟨g', cap, cur, h2, h3, ?_, h5⟩⟩
    rw [hB.block g' (Array.getElem?_eq_some_iff.1 h4).1]; exact h4
theorem OwnBytes.base_le {w : World} {base g : Nat} {v : Value} {xs : List Int} (h : OwnBytes w base v xs) (hv : v.ownBlock = some g) : base ≤ g := by
  obtain ⟨h1, ⟨rfl, _⟩ | ⟨g', cap, cur, rfl, h3, _⟩⟩ := h
  · simp [Value.ownBlock] at hv
  · have : g' = g := by simpa [Value.ownBlock] using hv
    omega
theorem ownBytes_nil (w : World) (base : Nat) : OwnBytes w base (.slice none 0 0) [] := ⟨rfl, .inl ⟨rfl, rfl⟩⟩
theorem wpList_append_bytes {w : World} {ops : Array Oper} {rest : List Oper} {o : Oper} {a : Act} {Q : Exit → Act → World → Prop} (hgd : o.guard = none) (s x : Operand)
    (ho : o.op = .call { callee := .builtin .append, args := #[s, x], argTypes := #[23, 23] })
    (base : Nat) (v : Value) (xs : List Int) (hs : a.eval s = v) (hown : OwnBytes w base v xs) (bx : Bys xs)
    (sa : Option Addr) (len cap : Nat) (m : List Int) (hx : a.eval x = .slice sa len cap) (hm : BytesV w sa len cap m) (hn : sa = none → cap = 0)
    (hl : xs.length + m.length ≤ 1099511627776) (hbase : base ≤ w.heap.size)
    (h : ∀ a' cap' w', OwnBytes w' base (.slice a' (xs.length + m.length) cap') (xs ++ m) → w.grownBy w' v.ownBlock → BytesV w' a' (xs.length + m.length) cap' (xs ++ m) → wpList Tryz.prog ops Q rest (a.put o.dst (.slice a' (xs.length + m.length) cap')) w') :
    wpList Tryz.prog ops Q (o :: rest) a w := by
  have hb : Bys (xs ++ m) := fun y hy => (List.mem_append.1 hy).elim (bx y) (hm.2.2.2.1 y)
  obtain ⟨i, hi, hz, hsize, hby⟩ : ∃ i, Tryz.prog.info? 5 = some i ∧ i.zero = some (.int .u8 0) ∧ i.size = 1 ∧ i.bytes = 1 := by
    have := info5
    cases hq : Tryz.prog.info? 5 with
    | none => simp [hq] at this
    | some i => exact ⟨i, rfl, by simp [hq] at this; exact this⟩
  have close : ∀ v' w', OwnBytes w' base v' (xs ++ m) → w.grownBy w' v.ownBlock → wpList Tryz.prog ops Q rest (a.put o.dst v') w' := fun v' w' h1 h2 => by
    obtain ⟨a', cap', rfl, hv⟩ := h1.form hb
    rw [List.length_append] at h1 hv ⊢
    exact h a' cap' w' h1 h2 hv
  cases sa with
  | none =>
    obtain rfl := hn rfl
    have h0 : len = 0 := by
      rcases Nat.eq_zero_or_pos len with h | h
      · exact h
      · obtain ⟨b, off, e, _⟩ := hm.2.2.2.2 h; cases e
    subst h0
    have : m = [] := List.eq_nil_of_length_eq_zero hm.1.symm
    subst this
    refine wpList_append_own_none hgd s x 23 ho base 5 i 1 Tryz.underlying23 hi v xs.length (u8s xs) hs hown hx ?_
    exact close v w (by rw [List.append_nil]; exact hown) ⟨rfl, rfl, rfl, Nat.le_refl _, fun _ _ _ => rfl⟩
  | some ad =>
    refine wpList_append_own_at (P := Tryz.prog) w hgd s x 23 ho base 5 i (.int .u8 0) 1 1 Tryz.underlying23 hi hz hsize hby rfl (by decide) v xs.length (u8s xs) hs hown ad len cap (u8s m) hx (by rw [u8s, List.length_map, ← hm.1]; omega) (fun j u hu => ?_) (u8s_one _) (by rw [hm.1]; unfold maxLen; omega) (by rw [hm.1]; omega) hbase ?_
    · have hj : j < m.length := by
        have := (List.getElem?_eq_some_iff.1 hu).1
        simpa [u8s] using this
      obtain ⟨b, off, e, hr⟩ := hm.2.2.2.2 (by rw [hm.1]; omega)
      simp only [Option.some.injEq] at e
      rw [e, Addr.add_mid]; exact hr j u hu
    · intro v' w' h1 h2 _ _
      refine close v' w' ?_ h2
      have e : len = m.length := hm.1
      subst e
      unfold OwnBytes
      rw [List.length_append, u8s, List.map_append]; exact h1
end Go.Proofs.YtgibllaifnnfkaaGreatDoor.J
namespace Go.Proofs.YtgibllaifnnfkaaGreatDoor
open Go Go.RowKit
def hn (l : List Int) : Nat := vb (fun i => ((J.digest l).getD i 0).toNat) 32
theorem hdigest_bys (l : List Int) : J.Bys (J.digest l) := fun x hx => by
  unfold J.digest J.sumBytes at hx
  obtain ⟨y, hy0, hy⟩ := List.mem_flatMap.1 hx
  have ho : (J.endSt l).ok := J.stOf_ok _
  have : 0 ≤ y ∧ y < 4294967296 := by
    unfold J.St.ok at ho
    unfold J.stWords at hy0
    simp only [List.mem_cons, List.not_mem_nil, or_false] at hy0
    rcases hy0 with rfl | rfl | rfl | rfl | rfl | rfl | rfl | rfl <;> omega
  exact J.be4_bys y this.1 this.2 x hy
theorem hdigest_at (l : List Int) (i : Nat) : 0 ≤ (J.digest l).getD i 0 ∧ (J.digest l).getD i 0 < 256 := by
  by_cases hi : i < (J.digest l).length
  · have e : (J.digest l).getD i 0 = (J.digest l)[i] := by simp [List.getD, hi]
    rw [e]
    exact hdigest_bys l _ (List.getElem_mem hi)
  · have e : (J.digest l).getD i 0 = 0 := by simp [List.getD, hi]
    rw [e]
    decide
theorem hn_byte (l : List Int) (i : Nat) (hi : i < 32) : (bdig (hn l) i : Int) = (J.digest l).getD i 0 := by
  have hb := hdigest_at l i
  unfold hn
  rw [bdig_vb _ 32 (fun j _ => by have := hdigest_at l j; omega) i hi]
  omega
theorem hn_lt (l : List Int) : hn l < R256 := by
  rw [R256_pow]
  exact vb_lt _ 32 fun i _ => by have := hdigest_at l i; omega
theorem dig_hn (l : List Int) : J.dig l = B32 (bdig (hn l)) := by
  apply Array.ext_getElem?
  intro i
  by_cases hi : i < 32
  · rw [B32_at _ i hi, hn_byte l i hi]
    have hl := J.digest_length l
    have hi' : i < (J.digest l).length := by omega
    simp [J.dig, J.u8s, List.getD, hi']
  · rw [Array.getElem?_eq_none (by rw [J.dig_size]; omega), Array.getElem?_eq_none (by rw [B32_size]; omega)]
end Go.Proofs.YtgibllaifnnfkaaGreatDoor
