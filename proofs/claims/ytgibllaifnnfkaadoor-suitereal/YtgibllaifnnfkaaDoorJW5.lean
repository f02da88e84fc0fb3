/- The walk of Write. -/
import Derived.Test.YtgibllaifnnfkaaDoorJW4
import Derived.Test.YtgibllaifnnfkaaDoorJM2
import Derived.Deep.DeepCutAuto
import Derived.Deep.DrawnRows
namespace Go.Proofs.YtgibllaifnnfkaaDoor.J
open Go.RowKit
attribute [local go_sem ↓] Go.wp_at_zero Go.wp_at_succ

/-- Both tables lie in their blocks. -/
def Tabs (w : World) : Prop := TabK w ∧ 2 < w.heap.size ∧ w.rangeAt 2 0 (stArr start).toList
/-- The value of a slice of bytes m, whose memory is not block g. -/
def SliceOf (w : World) (g : Nat) (v : Value) (m : List Int) : Prop :=
  ∃ a len cap, v = .slice a len cap ∧ len = m.length ∧ len ≤ cap ∧ cap ≤ maxLen ∧ Bys m ∧ (0 < len → ∃ b off, a = some ⟨b, off, none⟩ ∧ b ≠ g ∧ w.rangeAt b off (u8s m))
/-- A Sha in block g that was told l. -/
def ShaAt (w : World) (g : Nat) (l : List Int) : Prop :=
  Bys l ∧ ∃ (s : St) (tl : List Int), tl.length = 64 ∧ Bys tl ∧ Own w g (shaArr s tl l.length) 49 ∧ (l ≠ [] → s = stOf l) ∧ tl.take (l.length % 64) = rest l

theorem stOf_nil : stOf [] = start := rfl
theorem grown_setCells (b : Nat) : ∀ (vs : List Value) (o : Nat) (w : World), w.grownBy (w.setCells b o vs) (some b)
  | [], _, _ => ⟨rfl, rfl, rfl, Nat.le_refl _, fun _ _ _ => rfl⟩
  | v :: r, o, w => by rw [World.setCells]; exact grown_trans (grown_setCell w b o v) (grown_setCells b r (o + 1) _)
theorem grown_refl (w : World) (r : Option Nat) : w.grownBy w r := ⟨rfl, rfl, rfl, Nat.le_refl _, fun _ _ _ => rfl⟩
theorem grown_below {w w' : World} (h : Below w.heap.size w w') (r : Option Nat) : w.grownBy w' r := ⟨h.os, h.tape, h.output, h.size, fun k hk _ => h.block k hk⟩
theorem own_setSt {w : World} {g : Nat} {s : St} {tl : List Int} {n : Int} (h : Own w g (shaArr s tl n) 49) (s' : St) : Own (w.setCells g 0 (stArr s').toList) g (shaArr s' tl n) 49 := by
  rw [← shaArr_setSt s s' tl n]
  exact (((((((h.setCell _ _).setCell _ _).setCell _ _).setCell _ _).setCell _ _).setCell _ _).setCell _ _).setCell _ _
theorem Tabs.grown {w w' : World} {g : Nat} (h : Tabs w) (hg : w.grownBy w' (some g)) (h1 : 2 < g ∧ 5 < g) : Tabs w' := by
  obtain ⟨⟨k1, k2⟩, k3, k4⟩ := h
  refine ⟨⟨Nat.lt_of_lt_of_le k1 hg.size, fun i hi => ?_⟩, Nat.lt_of_lt_of_le k3 hg.size, ?_⟩
  · rw [World.cell?_of_block (w := w) (a := ⟨5, i, none⟩) (hg.block 5 k1 (by simp; omega))]; exact k2 i hi
  · intro j v hv
    rw [World.cell?_of_block (w := w) (a := ⟨2, 0 + j, none⟩) (hg.block 2 k3 (by simp; omega))]; exact k4 j v hv

theorem range_grown {w w' : World} {b o g : Nat} {cs : List Value} (h : w.rangeAt b o cs) (hg : w.grownBy w' (some g)) (hb : b ≠ g) : w'.rangeAt b o cs := fun j v hv => by
  have h1 := h j v hv
  rw [World.cell?_of_block (w := w) (hg.block b (World.block_lt_of_cell? w _ h1) (by simpa using hb))]; exact h1
theorem range_part {w : World} {b o : Nat} {m : List Int} (h : w.rangeAt b o (u8s m)) (k n : Nat) : w.rangeAt b (o + k) (u8s ((m.drop k).take n)) := fun j v hv => by
  rw [Nat.add_assoc]
  refine h (k + j) v ?_
  simp only [u8s, List.getElem?_map, List.getElem?_take, List.getElem?_drop] at hv ⊢
  split at hv
  · exact hv
  · simp at hv
theorem u8s_one (m : List Int) : ∀ v ∈ u8s m, v.oneCell' = true := fun v hv => by obtain ⟨x, _, rfl⟩ := List.mem_map.1 hv; rfl
theorem bytes_of_range {w : World} {b o n : Nat} {m : List Int} (h : w.rangeAt b o (u8s m)) (bm : Bys m) (hn : n ≤ m.length) : BytesAt w b o n (fun i => m.getD i 0) := fun i hi => by
  have hlt : i < m.length := by omega
  have e : m.getD i 0 = m[i] := by simp [List.getD, hlt]
  refine ⟨h i _ (by simp [u8s, hlt]), ?_⟩
  show 0 ≤ m.getD i 0 ∧ m.getD i 0 < 256
  rw [e]; exact bm _ (List.getElem_mem hlt)
theorem mix_lit (b off len cap : Nat) (f : Nat → Int) (s : St) (w : World) (hl : 64 ≤ len) (hc : len ≤ cap) (hcap : cap ≤ maxLen) (hb : BytesAt w b off 64 f) (hT : TabK w) :
    Calls Tryd.prog 41 #[.agg #[.int .u32 s.a, .int .u32 s.b, .int .u32 s.c, .int .u32 s.d, .int .u32 s.e, .int .u32 s.f, .int .u32 s.g, .int .u32 s.h], .slice (some ⟨b, off, none⟩) len cap] w fun e w' => ∃ r : St, e = .returned (.agg #[.int .u32 r.a, .int .u32 r.b, .int .u32 r.c, .int .u32 r.d, .int .u32 r.e, .int .u32 r.f, .int .u32 r.g, .int .u32 r.h]) ∧ Hid (r = mixS s f) ∧ Below w.heap.size w w' :=
  (mix_any b off len cap f s w hl hc hcap hb hT).mono fun _ _ ⟨h1, h2⟩ => ⟨mixS s f, h1, rfl, h2⟩
theorem shaAt_part {W : World} {g : Nat} (l m tl : List Int) (htl : tl.length = 64) (btl : Bys tl) (hrest : tl.take (l.length % 64) = rest l) (bl : Bys l) (bm : Bys m) (hs : l.length % 64 + m.length < 64)
    (ho : Own W g (shaArr (stOf l) (tl.take (l.length % 64) ++ (m ++ tl.drop (l.length % 64 + m.length))) ((l.length : Int) + m.length)) 49) : ShaAt W g (l ++ m) := by
  refine ⟨fun x hx => (List.mem_append.1 hx).elim (bl x) (bm x), stOf l, _, ?_, ?_, by rw [List.length_append, Int.natCast_add]; exact ho, fun _ => (stOf_small l m hs).symm, ?_⟩
  · simp; omega
  · intro x hx
    rcases List.mem_append.1 hx with h | h
    · exact btl x (List.mem_of_mem_take h)
    · rcases List.mem_append.1 h with h | h
      · exact bm x h
      · exact btl x (List.mem_of_mem_drop h)
  · rw [rest_small l m hs, hrest, ← List.append_assoc, List.take_append_of_le_length (by simp [rest_length]; omega), List.take_of_length_le (by simp [rest_length]; omega)]
theorem sha_facts {w : World} {g : Nat} {s : St} {tl : List Int} {n : Int} (h : Own w g (shaArr s tl n) 49) :
    w.cell? ⟨g, 0, none⟩ = some (.int .u32 s.a) ∧ w.cell? ⟨g, 1, none⟩ = some (.int .u32 s.b) ∧ w.cell? ⟨g, 2, none⟩ = some (.int .u32 s.c) ∧ w.cell? ⟨g, 3, none⟩ = some (.int .u32 s.d) ∧ w.cell? ⟨g, 4, none⟩ = some (.int .u32 s.e) ∧ w.cell? ⟨g, 5, none⟩ = some (.int .u32 s.f) ∧ w.cell? ⟨g, 6, none⟩ = some (.int .u32 s.g) ∧ w.cell? ⟨g, 7, none⟩ = some (.int .u32 s.h) ∧
    (∀ i, w.frozen? ⟨g, i, none⟩ = false) :=
  ⟨h.cell rfl, h.cell rfl, h.cell rfl, h.cell rfl, h.cell rfl, h.cell rfl, h.cell rfl, h.cell rfl, h.frozen⟩
theorem setSt_facts {w : World} {g : Nat} {s : St} {tl : List Int} {n : Int} (h : Own w g (shaArr s tl n) 49) (r : St) :
    ∃ w5, w5 = (((((((w.setCell ⟨g, 0, none⟩ (.int .u32 r.a)).setCell ⟨g, 1, none⟩ (.int .u32 r.b)).setCell ⟨g, 2, none⟩ (.int .u32 r.c)).setCell ⟨g, 3, none⟩ (.int .u32 r.d)).setCell ⟨g, 4, none⟩ (.int .u32 r.e)).setCell ⟨g, 5, none⟩ (.int .u32 r.f)).setCell ⟨g, 6, none⟩ (.int .u32 r.g)).setCell ⟨g, 7, none⟩ (.int .u32 r.h) ∧
      Own w5 g (shaArr r tl n) 49 ∧ w.grownBy w5 (some g) := ⟨_, rfl, own_setSt h r, grown_setCells g (stArr r).toList 0 w⟩
def sliceLen : Value → Nat | .slice _ n _ => n | _ => 0
theorem info5s : (Tryd.prog.info? 5).map (·.size) = some 1 := by kernel_rfl
set_option maxRecDepth 100000 in
set_option maxHeartbeats 4000000 in
theorem write_any (g : Nat) (l m : List Int) (a : Option Addr) (len cap : Nat) (w : World) (hS : ShaAt w g l) (hm : SliceOf w g (.slice a len cap) m) (hT : Tabs w) (hg : 2 < g ∧ 5 < g) (hn : l.length + m.length ≤ 1099511627776) :
    Calls Tryd.prog 25 #[.pointer (some ⟨g, 0, none⟩), .slice a len cap] w fun e w' => e = .returned (.tuple #[]) ∧ ShaAt w' g (l ++ m) ∧ w.grownBy w' (some g) := by
  obtain ⟨bl, s, tl, htl, btl, ho, hst, hrest⟩ := hS
  obtain ⟨a', len', cap', hv, hlen, hlc, hcm, bm, hmem⟩ := hm
  simp only [Value.slice.injEq] at hv
  obtain ⟨rfl, rfl, rfl⟩ := hv
  subst hlen
  have c72 := ho.cell (shaArr_len s tl l.length htl)
  go_enter Tryd.func25, Tryd.ntmps25
  go_upto_if 10 with fail
  go_cut [] (fun wx => Own wx g (shaArr (stOf l) tl l.length) 49 ∧ w.grownBy wx (some g))
  case first =>
    by_cases h0 : l = []
    · have hz : ((l.length : Int) == 0) = true := by rw [h0]; rfl
      have hsl : stOf l = start := by rw [h0]; rfl
      have hsz := shaArr_size s tl l.length htl
      have Hz := show Hid _ from hsl
      clear hsl
      go_wp2_with (first | refine wpList_load_mid (by rfl) 47 (.global 2) (by rfl) 2 0 (by rfl) (stArr start).toList _ hT.2.2 Tryd.underlying47 (by rfl) info42 ?_ | refine wpList_store_own (by rfl) 47 (.tmp 14) (.tmp 12) (by rfl) g 0 (stArr start) (by rfl) (by rfl) ho (by rw [hsz]; decide) info42 (stArr_one _) (by rfl) ?_)
      go_meet
      exact ⟨by rw [Hz.out]; exact own_setSt ho start, grown_setCells _ _ _ _⟩
    · have hz : ((l.length : Int) == 0) = false := by
        have : l.length ≠ 0 := fun e => h0 (List.eq_nil_of_length_eq_zero e)
        simp; omega
      go_wp2_with fail
      go_meet
      exact ⟨by rw [← hst h0]; exact ho, grown_refl _ _⟩
  case rest =>
    clear c72 ho
    obtain ⟨ho, hgr⟩ := hcut
    have c72 := ho.cell (shaArr_len (stOf l) tl l.length htl)
    have f72 := ho.frozen 72
    have hi1 : (l.length : Int) ≤ 1099511627776 := by omega
    have hi2 : (m.length : Int) ≤ 1099511627776 := by omega
    go_upto_if 30 with fail
    have ho2 := ho.setCell 72 (.int .i64 ((l.length : Int) + m.length))
    rw [shaArr_setLen _ _ _ _ htl] at ho2
    have hgr2 := grown_trans hgr (grown_setCell wc g 72 (.int .i64 ((l.length : Int) + m.length)))
    generalize wc.setCell ⟨g, 72, none⟩ (.int .i64 ((l.length : Int) + m.length)) = W at *
    clear c72 f72 ho hgr
    obtain ⟨h, hh1, Hh⟩ : ∃ h : Nat, (l.length : Int) % 64 = (h : Int) ∧ Hid (h = l.length % 64) := ⟨l.length % 64, by omega, rfl⟩
    have hh64 : h < 64 := by have := Hh.out; omega
    rw [hh1]
    clear hh1
    go_cut [1] (fun v wx => ∃ (k : Nat) (a' : Option Addr) (cap' : Nat) (tl' : List Int), v = .slice a' (m.length - k) cap' ∧ k ≤ m.length ∧ m.length - k ≤ cap' ∧ cap' ≤ maxLen ∧ (l.length + k) % 64 = 0 ∧ tl'.length = 64 ∧ Bys tl' ∧ Own wx g (shaArr (stOf (l ++ m.take k)) tl' ((l.length : Int) + m.length)) 49 ∧ w.grownBy wx (some g) ∧ (0 < m.length - k → ∃ b off, a' = some ⟨b, off + k, none⟩ ∧ b ≠ g ∧ w.rangeAt b off (u8s m)))
    case first =>
      by_cases hh : h = 0
      · have hz : ¬ (0 : Int) < (h : Int) := by omega
        have hl0 : l.length % 64 = 0 := by rw [← Hh.out]; exact hh
        clear hh
        go_wp2_with fail
        go_meet
        exact ⟨0, a, cap, tl, rfl, by omega, hlc, hcm, by omega, htl, btl, by simpa using ho2, hgr2, by simpa using hmem⟩
      · obtain ⟨n, Hn⟩ : ∃ n : Nat, Hid (n = Nat.min m.length (64 - h)) := ⟨_, rfl⟩
        have hn64 : n ≤ 64 - h := by rw [Hn.out]; exact Nat.min_le_right _ _
        have hnm : n ≤ m.length := by rw [Hn.out]; exact Nat.min_le_left _ _
        have hcs : (u8s (m.take n)).length = n := by simp [u8s]; omega
        have hh0 : 0 < h := by omega
        have hh0' : (0 : Int) < (h : Int) := by omega
        have hh64' : (h : Int) ≤ 64 := by omega
        have hpos : 0 < n → (some ⟨g, 8 + h, none⟩ : Option Addr) = some ⟨g, 8 + h, none⟩ ∧ ∃ b o, a = some ⟨b, o, none⟩ ∧ W.rangeAt b o (u8s (m.take n)) := fun hp => by
          obtain ⟨b, off, e, hb, hr⟩ := hmem (by omega)
          exact ⟨rfl, b, off, e, by simpa using range_grown (range_part hr 0 n) hgr2 hb⟩
        have hfit : 8 + h + n ≤ (shaL (stOf l) tl ((l.length : Int) + m.length)).length := by
          have := shaArr_size (stOf l) tl ((l.length : Int) + m.length) htl
          simp only [shaArr, List.size_toArray] at this
          omega
        have HP := show Hid _ from hpos
        have HC := show Hid _ from hcs
        clear hpos hcs
        clear hh
        go_wp2_with (refine wpList_copy_into (by rfl) (.tmp 35) (.tmp 36) 23 23 (by rfl) 5 Tryd.underlying23 info5s (some ⟨g, 8 + h, none⟩) a (64 - h) (64 - h) m.length cap (by rfl) (by rfl) g (8 + h) n (shaL (stOf l) tl ((l.length : Int) + m.length)) 49 ho2 (u8s (m.take n)) HC.out Hn.out HP.out hfit (u8s_one _) ?_; intro w1 ho3 hg3)
        · rename_i hlt
          have hnm' : n = m.length := by have := Hn.out; simp only [Nat.min_def] at this; split at this <;> omega
          subst hnm'
          rw [List.take_length, shaL_splice _ _ _ _ _ (by omega)] at ho3
          rw [Hh.out] at ho3
          refine bodyPost_ret (results_none rfl _ _ _) rfl ⟨rfl, shaAt_part l m tl htl btl hrest bl bm (by have := Hh.out; omega) ho3, grown_trans hgr2 hg3⟩
        · have hn' : h + n = 64 := by omega
          obtain ⟨b, off, rfl, hb, hr⟩ := hmem (by omega)
          have hncap : (n : Int) ≤ (cap : Int) := by omega
          have hnmi : (n : Int) ≤ (m.length : Int) := by omega
          have htn : (m.take n).length = n := by simp; omega
          rw [shaL_splice _ _ _ _ _ (by rw [htn]; omega), htn, hn', List.drop_of_length_le (by omega), List.append_nil] at ho3
          have Htn := show Hid _ from htn
          clear htn
          have e1 : tl.take h ++ m.take n = rest l ++ m.take n := by rw [← hrest, Hh.out]
          rw [e1] at ho3
          obtain ⟨tl1, H1⟩ : ∃ tl1, Hid (tl1 = rest l ++ m.take n) := ⟨_, rfl⟩
          rw [← H1.out] at ho3
          have h1len : tl1.length = 64 := by rw [H1.out, List.length_append, rest_length, Htn.out, ← Hh.out]; exact hn'
          have b1 : Bys tl1 := by
            rw [H1.out]; intro x hx
            rcases List.mem_append.1 hx with hx | hx
            · exact bl x (List.mem_of_mem_drop hx)
            · exact bm x (List.mem_of_mem_take hx)
          clear e1
          have ho3 : Own w1 g (shaArr (stOf l) tl1 ((l.length : Int) + m.length)) 49 := ho3
          have hgr3 := grown_trans hgr2 hg3
          have hT3 := hT.grown hgr3 hg
          have hglt := ho3.lt
          obtain ⟨c0, c1, c2, c3, c4, c5, c6, c7, fz⟩ := sha_facts ho3
          have hby : BytesAt w1 g 8 64 (fun i => tl1.getD i 0) := fun i hi => by
            refine ⟨ho3.cell (shaArr_tail _ _ _ i (by omega)), ?_⟩
            have e : tl1.getD i 0 = tl1[i] := by simp [List.getD, h1len, hi]
            show 0 ≤ tl1.getD i 0 ∧ tl1.getD i 0 < 256
            rw [e]; exact b1 _ (List.getElem_mem (by omega))
          go_region_with (go_at_call 41; refine (mix_lit g 8 64 64 (fun i => tl1.getD i 0) (stOf l) _ (by decide) (by decide) (by decide) (by exact hby) (by exact hT3.1)).mono ?_; rintro e w2 ⟨r, rfl, Hr, hB⟩; have ho4 : Own w2 g (shaArr (stOf l) tl1 ((l.length : Int) + m.length)) 49 := Own.below (by exact ho3) hB (by exact hglt); obtain ⟨d0, d1, d2, d3, d4, d5, d6, d7, fz2⟩ := sha_facts ho4)
          obtain ⟨w5, hw5, ho5, hg5⟩ := setSt_facts ho4 r
          rw [← hw5]
          have hgr5 := grown_trans (grown_trans hgr3 (grown_below ((Below.refl _ w1).drew.trans hB) _)) hg5
          clear hw5 d0 d1 d2 d3 d4 d5 d6 d7 fz2 c0 c1 c2 c3 c4 c5 c6 c7 fz hB hg5 ho4 ho3 hby HP
          have hst5 : Hid (r = stOf (l ++ m.take n)) := by
            show r = _
            rw [stOf_fill l (m.take n) (by rw [Htn.out, ← Hh.out]; exact hn'), ← H1.out]; exact Hr.out
          go_wp2_with fail
          all_goals go_meet
          · exact ⟨n, _, 0, tl1, rfl, by omega, by omega, by decide, by have := Hh.out; omega, h1len, b1, by rw [← hst5.out]; exact ho5, hgr5, fun hp => absurd hp (by omega)⟩
          · exact ⟨n, _, cap - n, tl1, rfl, by omega, by omega, by omega, by have := Hh.out; omega, h1len, b1, by rw [← hst5.out]; exact ho5, hgr5, fun _ => ⟨b, off, rfl, hb, hr⟩⟩
    case rest =>
      clear ho2 hgr2 hrest htl btl hmem hlc hcm hst
      obtain ⟨k, a', cap', tl', rfl, hk, hkc, hcm, hal, htl, btl, ho, hgr, hmem⟩ := hcut
      go_wp2_with fail
      go_loopw [1] (fun v wx => ∃ (k : Nat) (a' : Option Addr) (cap' : Nat) (tl' : List Int), v = .slice a' (m.length - k) cap' ∧ k ≤ m.length ∧ m.length - k ≤ cap' ∧ cap' ≤ maxLen ∧ (l.length + k) % 64 = 0 ∧ tl'.length = 64 ∧ Bys tl' ∧ Own wx g (shaArr (stOf (l ++ m.take k)) tl' ((l.length : Int) + m.length)) 49 ∧ w.grownBy wx (some g) ∧ (0 < m.length - k → ∃ b off, a' = some ⟨b, off + k, none⟩ ∧ b ≠ g ∧ w.rangeAt b off (u8s m))) (fun v _ => sliceLen v)
      case atStart => exact ⟨k, a', cap', tl', rfl, hk, hkc, hcm, hal, htl, btl, ho, hgr, hmem⟩
      case round =>
        clear hk hkc hcm hal htl btl ho hgr hmem
        obtain ⟨k, a', cap', tl', rfl, hk, hkc, hcm, hal, htl, btl, ho, hgr, hmem⟩ := hrel
        by_cases hlt : 64 ≤ m.length - k
        · have hk64 : k + 64 ≤ m.length := by omega
          obtain ⟨b, off, rfl, hb, hr⟩ := hmem (by omega)
          clear hmem hlt
          have hT3 := hT.grown hgr hg
          have hglt := ho.lt
          obtain ⟨c0, c1, c2, c3, c4, c5, c6, c7, fz⟩ := sha_facts ho
          obtain ⟨q, Hq⟩ : ∃ q, Hid (q = m.length - k) := ⟨_, rfl⟩
          have hq64 : (64 : Int) ≤ (q : Int) := by rw [Hq.out]; omega
          have hqc : (64 : Int) ≤ (cap' : Int) := by omega
          have hq64' : 64 ≤ q := by omega
          have hqk : Hid (k + q = m.length) := by show k + q = m.length; rw [Hq.out]; omega
          rw [← Hq.out] at hkc
          obtain ⟨M, HM⟩ : ∃ M : List Int, Hid (M = (m.drop k).take 64) := ⟨_, rfl⟩
          have hMl : M.length = 64 := by rw [HM.out, List.length_take, List.length_drop]; omega
          have bM : Bys M := fun x hx => by rw [HM.out] at hx; exact bm x (List.mem_of_mem_drop (List.mem_of_mem_take hx))
          have hrM : wr.rangeAt b (off + k) (u8s M) := by rw [HM.out]; exact range_grown (range_part hr k 64) hgr hb
          have hby : BytesAt wr b (off + k) 64 (fun i => M.getD i 0) := bytes_of_range hrM bM (by omega)
          have hstM : Hid (stOf (l ++ m.take (k + 64)) = mixS (stOf (l ++ m.take k)) (fun i => M.getD i 0)) := by
            show stOf _ = _
            rw [← stOf_block _ M (by rw [List.length_append, List.length_take, Nat.min_eq_left hk]; exact hal) hMl, HM.out, List.append_assoc, ← List.take_add]
          have HK := show Hid (k + 64 ≤ m.length) from hk64
          clear hk hrM hk64
          rw [← Hq.out]
          generalize stOf (l ++ m.take k) = sk at *
          go_wp2_with fail
          go_region_with (go_at_call 41; refine (mix_lit b (off + k) 64 cap' (fun i => M.getD i 0) sk _ (by decide) (by omega) (by exact hcm) (by exact hby) (by exact hT3.1)).mono ?_; rintro e w2 ⟨r, rfl, Hr, hB⟩; have ho4 : Own w2 g (shaArr sk tl' ((l.length : Int) + m.length)) 49 := Own.below (by exact ho) hB (by exact hglt); obtain ⟨d0, d1, d2, d3, d4, d5, d6, d7, fz2⟩ := sha_facts ho4)
          obtain ⟨w5, hw5, ho5, hg5⟩ := setSt_facts ho4 r
          rw [← hw5]
          have hgr5 := grown_trans (grown_trans hgr (grown_below ((Below.refl _ wr).drew.trans hB) _)) hg5
          clear hw5 d0 d1 d2 d3 d4 d5 d6 d7 fz2 c0 c1 c2 c3 c4 c5 c6 c7 fz hB hg5 ho4 ho hby
          go_wp2_with fail
          go_roundw
          case rel =>
            have h1 := HK.out
            have h2 := hqk.out
            refine ⟨k + 64, _, _, tl', by rw [show m.length - (k + 64) = q - 64 from by omega], h1, by omega, by omega, by omega, htl, btl, by rw [hstM.out, ← Hr.out]; exact ho5, hgr5, fun hp => ⟨b, off, ?_, hb, hr⟩⟩
            rw [if_neg (by omega), Nat.add_assoc]
          case measure => simp [sliceLen]; omega
        · have hi0 : ¬ (64 : Int) ≤ ((m.length - k : Nat) : Int) := by omega
          have hfit : 8 + (m.length - k) ≤ (shaL (stOf (l ++ m.take k)) tl' ((l.length : Int) + m.length)).length := by
            have := shaArr_size (stOf (l ++ m.take k)) tl' ((l.length : Int) + m.length) htl
            simp only [shaArr, List.size_toArray] at this
            omega
          have hpos : 0 < m.length - k → (some ⟨g, 8, none⟩ : Option Addr) = some ⟨g, 8, none⟩ ∧ ∃ b o, a' = some ⟨b, o, none⟩ ∧ wr.rangeAt b o (u8s (m.drop k)) := fun hp => by
            obtain ⟨b, off, e, hb, hr⟩ := hmem hp
            refine ⟨rfl, b, off + k, e, ?_⟩
            have := range_grown (range_part hr k (m.drop k).length) hgr hb
            rwa [List.take_length] at this
          have HP := show Hid _ from hpos
          have HC : Hid ((u8s (m.drop k)).length = m.length - k) := by show _ = _; simp [u8s]
          have HN : Hid (m.length - k = Nat.min (m.length - k) 64) := by show _ = _; exact (Nat.min_eq_left (by omega)).symm
          clear hpos hmem
          go_wp2_with (refine wpList_copy_into (by rfl) (.tmp 75) (.tmp 76) 23 23 (by rfl) 5 Tryd.underlying23 info5s (some ⟨g, 8, none⟩) a' 64 64 (m.length - k) cap' (by rfl) (by rfl) g 8 (m.length - k) (shaL (stOf (l ++ m.take k)) tl' ((l.length : Int) + m.length)) 49 ho (u8s (m.drop k)) HC.out HN.out HP.out hfit (u8s_one _) ?_; intro w1 ho3 hg3)
          go_end0
          have hl' : (l ++ m.take k).length = l.length + k := by rw [List.length_append, List.length_take, Nat.min_eq_left hk]
          have hz : (l ++ m.take k).length % 64 = 0 := by rw [hl']; exact hal
          have e1 : (m.drop k).length = m.length - k := by simp
          have e2 : ((l ++ m.take k).length : Int) + ((m.drop k).length : Int) = (l.length : Int) + m.length := by rw [hl', e1]; omega
          rw [show (8 : Nat) = 8 + 0 from rfl, shaL_splice _ _ _ _ _ (by rw [e1]; omega)] at ho3
          have := shaAt_part (W := w1) (g := g) (l ++ m.take k) (m.drop k) tl' htl btl (by rw [hz, rest_whole _ hz]; rfl) (fun x hx => (List.mem_append.1 hx).elim (bl x) (fun h => bm x (List.mem_of_mem_take h))) (fun x hx => bm x (List.mem_of_mem_drop hx)) (by rw [hz, e1]; omega) (by rw [hz, e2]; exact ho3)
          rw [List.append_assoc, List.take_append_drop] at this
          exact ⟨rfl, this, grown_trans hgr hg3⟩
end Go.Proofs.YtgibllaifnnfkaaDoor.J
