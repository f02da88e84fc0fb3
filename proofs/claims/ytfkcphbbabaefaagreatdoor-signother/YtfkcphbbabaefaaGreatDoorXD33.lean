/- Of the texts HW6, HK: what the card of this claim reaches. -/
import Derived.Test.YtfkcphbbabaefaaGreatDoorXD32
import Derived.Test.YtfkcphbbabaefaaGreatDoorXD1
import Derived.Maps.AppendAt
import Derived.Laws.AppendOwnNone
namespace Go.Proofs.YtfkcphbbabaefaaGreatDoor.H
open Go.RowKit
def newText : Array Value := shaArr start (List.replicate 128 0) 0
def zeroText : Array Value := shaArr ⟨0, 0, 0, 0, 0, 0, 0, 0⟩ (List.replicate 128 0) 0
theorem zeroText_size : zeroText.size = 137 := shaArr_size _ _ _ (by simp)
theorem newText_size : newText.size = 137 := shaArr_size _ _ _ (by simp)
def z64 : Array Value := Array.replicate 64 (.int .u8 0)
theorem z64_size : z64.size = 64 := by simp [z64]
theorem zero39 : (Tryz.prog.info? 71).map (fun i => (i.zero, i.size)) = some (some (.agg zeroText), 137) := by kernel_rfl
theorem zero25 : (Tryz.prog.info? 26).map (fun i => (i.zero, i.size)) = some (some (.agg z64), 64) := by kernel_rfl
theorem info39 : (Tryz.prog.info? 71).map (·.size) = some 137 := by kernel_rfl
theorem info25 : (Tryz.prog.info? 26).map (·.size) = some 64 := by kernel_rfl
theorem shaArr_one (s : St) (tl : List Int) (n : Int) : (shaArr s tl n).all (·.oneCell') = true := all_oneCell_toArray fun v hv => by
  simp only [shaL, List.mem_cons, List.mem_append, List.not_mem_nil, or_false] at hv
  rcases hv with rfl | rfl | rfl | rfl | rfl | rfl | rfl | rfl | hv | rfl <;> first | rfl | exact u8s_one _ _ hv
theorem shaAt_new (w : World) (g : Nat) (ho : Own w g newText 71) : ShaAt w g [] :=
  ⟨fun _ h => by simp at h, _, by simp, fun x h => by obtain ⟨_, rfl⟩ := List.mem_replicate.1 h; decide, ho, rfl⟩
def BytesV (w : World) (a : Option Addr) (len cap : Nat) (m : List Int) : Prop :=
  len = m.length ∧ len ≤ cap ∧ cap ≤ maxLen ∧ Bys m ∧ (0 < len → ∃ b off, a = some ⟨b, off, none⟩ ∧ w.rangeAt b off (u8s m))
theorem BytesV.below {w w' : World} {a : Option Addr} {len cap : Nat} {m : List Int} (h : BytesV w a len cap m) (hB : Below w.heap.size w w') : BytesV w' a len cap m := by
  obtain ⟨h1, h2, h3, h4, h5⟩ := h
  refine ⟨h1, h2, h3, h4, fun hp => ?_⟩
  obtain ⟨b, off, e, hr⟩ := h5 hp
  exact ⟨b, off, e, fun j v hv => by
    have := hr j v hv
    rw [hB.cell (World.block_lt_of_cell? w _ this)]; exact this⟩
theorem range_lt {w : World} {b off : Nat} {m : List Int} (h : w.rangeAt b off (u8s m)) (hm : 0 < m.length) : b < w.heap.size :=
  World.block_lt_of_cell? w _ (h 0 (.int .u8 (m[0])) (by simp [u8s, hm]))
theorem BytesV.slice {w w' : World} {a : Option Addr} {len cap g : Nat} {m : List Int} (h : BytesV w a len cap m) (hB : Below w.heap.size w w') (hg : w.heap.size ≤ g) : SliceOf w' g (.slice a len cap) m := by
  have h' := h.below hB
  obtain ⟨h1, h2, h3, h4, h5⟩ := h'
  refine ⟨a, len, cap, rfl, h1, h2, h3, h4, fun hp => ?_⟩
  obtain ⟨b, off, e, hr⟩ := h5 hp
  obtain ⟨b', off', e', hr'⟩ := h.2.2.2.2 hp
  have hlt := range_lt hr' (by omega)
  rw [e] at e'
  simp only [Option.some.injEq, Addr.mk.injEq] at e'
  exact ⟨b, off, e, by omega, hr⟩
theorem Tabs.below {w w' : World} (h : Tabs w) (hB : Below w.heap.size w w') : Tabs w' := h.grown (g := w.heap.size) (grown_below hB _) ⟨h.2.1, h.1.1⟩
theorem ShaAt.below {w w' : World} {g B : Nat} {l : List Int} (h : ShaAt w g l) (hB : Below B w w') (hg : g < B) : ShaAt w' g l := by
  obtain ⟨bl, tl, htl, btl, ho, hrest⟩ := h
  exact ⟨bl, tl, htl, btl, ho.below hB hg, hrest⟩
theorem ShaAt.lt {w : World} {g : Nat} {l : List Int} (h : ShaAt w g l) : g < w.heap.size := by
  obtain ⟨bl, tl, htl, btl, ho, hrest⟩ := h
  exact ho.lt
theorem digest_length (l : List Int) : (digest l).length = 64 := by
  have := sumL_length (endSt l) 8 (by omega)
  rw [sumL_eight, u8s, List.length_map] at this; exact this
def dig (l : List Int) : Array Value := (u8s (digest l)).toArray
theorem dig_size (l : List Int) : (dig l).size = 64 := by rw [dig, List.size_toArray, u8s, List.length_map]; exact digest_length l
theorem dig_info (l : List Int) : (Tryz.prog.info? 26).map (·.size) = some (dig l).size := by rw [info25, dig_size]
theorem dig_one (l : List Int) : (dig l).all (·.oneCell') = true := all_oneCell_toArray (u8s_one _)
def RowsV (w : World) (a : Option Addr) (len cap : Nat) (ms : List (List Int)) : Prop :=
  len = ms.length ∧ len ≤ cap ∧ cap ≤ maxLen ∧ (0 < len → ∃ b off, a = some ⟨b, off, none⟩ ∧ ∀ i m, ms[i]? = some m → ∃ a' cap', w.cell? ⟨b, off + i, none⟩ = some (.slice a' m.length cap') ∧ BytesV w a' m.length cap' m ∧ (a' = none → cap' = 0))
theorem RowsV.below {w w' : World} {a : Option Addr} {len cap : Nat} {ms : List (List Int)} (h : RowsV w a len cap ms) (hB : Below w.heap.size w w') : RowsV w' a len cap ms := by
  obtain ⟨h1, h2, h3, h4⟩ := h
  refine ⟨h1, h2, h3, fun hp => ?_⟩
  obtain ⟨b, off, e, hr⟩ := h4 hp
  refine ⟨b, off, e, fun i m hm => ?_⟩
  obtain ⟨a', cap', hc, hv, hn⟩ := hr i m hm
  exact ⟨a', cap', by rw [hB.cell (World.block_lt_of_cell? w _ hc)]; exact hc, hv.below hB, hn⟩
theorem RowsV.at {w : World} {a : Option Addr} {len cap : Nat} {ms : List (List Int)} (h : RowsV w a len cap ms) (k : Nat) (hk : k < len) :
    ∃ b off m a' cap', a = some ⟨b, off, none⟩ ∧ ms[k]? = some m ∧ w.cell? ⟨b, off + k, none⟩ = some (.slice a' m.length cap') ∧ BytesV w a' m.length cap' m ∧ (a' = none → cap' = 0) := by
  obtain ⟨b, off, e, hr⟩ := h.2.2.2 (by omega)
  have hk' : k < ms.length := by rw [← h.1]; exact hk
  obtain ⟨a', cap', hc, hv, hn⟩ := hr k ms[k] (List.getElem?_eq_getElem hk')
  exact ⟨b, off, ms[k], a', cap', e, List.getElem?_eq_getElem hk', hc, hv, hn⟩
def upTo (ms : List (List Int)) (k : Nat) : List Int := (ms.take k).flatten
theorem upTo_succ (ms : List (List Int)) (k : Nat) (m : List Int) (h : ms[k]? = some m) : upTo ms (k + 1) = upTo ms k ++ m := by
  obtain ⟨hk, e⟩ := List.getElem?_eq_some_iff.1 h
  rw [upTo, upTo, List.take_succ_eq_append_getElem hk, e]; simp
theorem upTo_all (ms : List (List Int)) (k : Nat) (h : ms.length ≤ k) : upTo ms k = ms.flatten := by rw [upTo, List.take_of_length_le h]
theorem upTo_le (ms : List (List Int)) (k : Nat) : (upTo ms k).length ≤ ms.flatten.length := by
  have : ms.flatten = upTo ms k ++ (ms.drop k).flatten := by rw [upTo, ← List.flatten_append, List.take_append_drop]
  rw [this, List.length_append]; omega
theorem wpList_value {P : Program} {ops : Array Oper} {rest : List Oper} {op : Oper} {a : Act} {w : World} {Q : Exit → Act → World → Prop} (hgd : op.guard = none) (v : Value) (hrun : (execOp a.eval op).run P w = .ok (.value v) w)
    (h : wpList P ops Q rest (a.put op.dst v) w) : wpList P ops Q (op :: rest) a w :=
  wpList_plain hgd fun _ hK => by
    unfold Oper.wp
    rw [hrun]
    exact hK _ _ h
theorem wpList_build {P : Program} {ops : Array Oper} {rest : List Oper} {op : Oper} {a : Act} {w : World} {Q : Exit → Act → World → Prop} (hgd : op.guard = none) (t : TypeId) (fs : Array (Nat × Operand)) (_ho : op.op = .build t fs) (v : Value) (hrun : (execOp a.eval op).run P w = .ok (.value v) w)
    (h : wpList P ops Q rest (a.put op.dst v) w) : wpList P ops Q (op :: rest) a w := wpList_value hgd v hrun h
set_option maxRecDepth 100000 in
set_option maxHeartbeats 4000000 in
theorem sum_any (a : Option Addr) (len cap : Nat) (ms : List (List Int)) (w : World) (hR : RowsV w a len cap ms) (hT : Tabs w) (hn : ms.flatten.length ≤ 16000000) :
    Calls Tryz.prog 19 #[.slice a len cap] w fun e w' => e = .returned (.agg (dig ms.flatten)) ∧ Below w.heap.size w w' := by
  have hz := (zero_of_info zero39).1
  have hz2 := (zero_of_info zero25).1
  have hlM : len ≤ maxLen := Nat.le_trans hR.2.1 hR.2.2.1
  have hlm : (len : Int) ≤ 9223372036854775807 := by unfold maxLen at hlM; omega
  go_enter Tryz.func19, Tryz.ntmps19
  go_upto_region 1 with fail
  have oR := own_new w z64 26
  have hb1 := (Below.refl w.heap.size w).alloc (Nat.le_refl _) (.cells z64 26)
  have hlt1 : w.heap.size < (w.alloc (.cells z64 26)).heap.size := by simp
  have hT1 := hT.below hb1
  generalize w.alloc (.cells z64 26) = W1 at *
  go_upto_region 2 with (first
    | refine wpList_load_mid (by rfl) 63 (.global 1) (by rfl) 1 0 (by rfl) (stArr start).toList _ hT1.2.2 Tryz.underlying63 (by rfl) info36 ?_
    | refine wpList_store_new (by rfl) 71 (.tmp 3) (.tmp 10) (by rfl) _ newText (by rfl) (by rfl) (by rw [info39, newText_size]) (by rw [newText_size, zeroText_size]) (shaArr_one _ _ _) (by rfl) ?_
    | refine wpList_build (by rfl) 71 #[(0, .tmp 9)] (by rfl) (.agg newText) (by kernel_rfl) ?_)
  have oE := own_new W1 newText 71
  have oR := oR.alloc (.cells newText 71)
  have hb2 := hb1.alloc hb1.size (.cells newText 71)
  have hE : w.heap.size < W1.heap.size := hlt1
  generalize W1.alloc (.cells newText 71) = W2 at *
  have hS := shaAt_new W2 W1.heap.size oE
  generalize W1.heap.size = E at *
  have hg1 : 1 < E ∧ 5 < E := ⟨Nat.lt_trans hT.2.1 hE, Nat.lt_trans hT.1.1 hE⟩
  clear hz oE hT1
  go_wp2_with fail
  go_loopw [13] (fun i wr => ∃ k : Nat, k ≤ len ∧ i = .int .i64 k ∧ ShaAt wr E (upTo ms k) ∧ Own wr w.heap.size z64 26 ∧ Below w.heap.size w wr) (fun i _ => len - (intOf i).toNat)
  case atStart => exact ⟨0, Nat.zero_le _, rfl, hS, oR, hb2⟩
  case round =>
    clear hS oR hb2
    obtain ⟨k, hk, rfl, hS, oR, hb⟩ := hrel
    by_cases hkl : k < len
    · have hki : (k : Int) < (len : Int) := by omega
      have hk0 : (0 : Int) ≤ (k : Int) := by omega
      obtain ⟨b, off, m, a', cap', rfl, hm, hc, hv, -⟩ := hR.at k hkl
      have hc' : wr.cell? ⟨b, off + k, none⟩ = some (.slice a' m.length cap') := by rw [hb.cell (World.block_lt_of_cell? w _ hc)]; exact hc
      have hsl := hv.slice (g := E) hb (Nat.le_of_lt hE)
      have hus := upTo_succ ms k m hm
      have hul := upTo_le ms (k + 1)
      rw [hus, List.length_append] at hul
      have HU := show Hid _ from hus
      clear hus hc hm
      go_wp2_with fail
      refine (write_any E (upTo ms k) m _ _ _ _ hS hsl (hT.below hb) hg1 (by omega)).mono ?_
      rintro e w3 ⟨rfl, hS3, hg3⟩
      rw [← HU.out] at hS3
      go_wp2
      go_roundw
      case rel => exact ⟨k + 1, by omega, by go_num, hS3, by unfold Own; rw [hg3.block _ oR.lt (by simp; omega)]; exact oR, below_grown hb hg3 hb.size (by omega)⟩
      case measure => simp [intOf]; omega
    · have hki : ¬ (k : Int) < (len : Int) := by omega
      have hall : upTo ms k = ms.flatten := upTo_all ms k (by have := hR.1; omega)
      rw [hall] at hS
      clear hall
      obtain ⟨l, Hl⟩ : ∃ l, Hid (l = ms.flatten) := ⟨_, rfl⟩
      rw [← Hl.out] at hS hn
      obtain ⟨bl, tl, htl, btl, oE, hrest⟩ := hS
      have c136 := oE.cell (shaArr_len (stOf l) tl l.length htl)
      have hT2 := hT.below hb
      go_wp2_with fail
      refine (pad_any l.length _ (by omega)).mono ?_
      rintro e w3 ⟨rfl, oP, hb3⟩
      have hb23 := hb.trans (hb3.mono hb.size)
      have hT3 : Tabs w3 := hT.below hb23
      have hSE3 : ShaAt w3 E l := ⟨bl, tl, htl, btl, oE.below hb3 oE.lt, hrest⟩
      have hpl := padL_length l.length
      have hnt : noughts l.length ≤ 127 := by unfold noughts; omega
      have oR3 := oR.below hb3 oR.lt
      have hEl := oE.lt
      have hSl : SliceOf w3 E (.slice (some ⟨wr.heap.size, 0, none⟩) (padL l.length).length (padL l.length).length) (padL l.length) :=
        ⟨_, _, _, rfl, rfl, Nat.le_refl _, by rw [hpl]; unfold maxLen; omega, padL_bys _, fun _ => ⟨wr.heap.size, 0, rfl, by omega, by simpa using oP.range⟩⟩
      have hpn : Hid (l.length + (padL l.length).length ≤ 1099511627776) := by show _ ≤ _; rw [hpl]; omega
      clear c136 hpl
      go_wp2_with fail
      refine (write_any E l (padL l.length) _ _ _ _ hSE3 hSl hT3 hg1 hpn.out).mono ?_
      rintro e w4 ⟨rfl, hS4, hg4⟩
      have hb4 := below_grown hb23 hg4 hb23.size (by omega)
      have oR4 : Own w4 w.heap.size z64 26 := by unfold Own; rw [hg4.block _ oR3.lt (by simp; omega)]; exact oR3
      have hlt4 := oR4.lt
      obtain ⟨_, tl4, htl4, btl4, ho4, _⟩ := hS4
      obtain ⟨s4, HS4⟩ : ∃ s4, Hid (s4 = endSt l) := ⟨_, rfl⟩
      have ok4 : s4.ok := by rw [HS4.out]; exact stOf_ok _
      rw [show stOf (l ++ padL l.length) = s4 from HS4.out.symm] at ho4
      clear hSl hSE3 hT3 hT2 oR3 oP hb3 oE hb hb23 oR
      go_upto_region 9 with fail
      have oS := own_new w4 z64 26
      have ho5 := ho4.alloc (.cells z64 26)
      have oR5 := oR4.alloc (.cells z64 26)
      have hb5 := hb4.alloc hb4.size (.cells z64 26)
      generalize w4.alloc (.cells z64 26) = W5 at *
      clear oR4 hb4 ho4 hg4
      generalize w4.heap.size = M at *
      have hRM : w.heap.size ≠ M := by omega
      obtain ⟨c0, c1, c2, c3, c4, c5, c6, c7, fz⟩ := sha_facts ho5
      have oS : Own W5 M (sumL s4 0).toArray 26 := oS
      have hidx : ∀ (k : Nat) (v : Value), k < 8 → (stArr s4)[k]? = some v → ∀ w', (Instr.index 63 (.agg #[.int .u64 s4.a, .int .u64 s4.b, .int .u64 s4.c, .int .u64 s4.d, .int .u64 s4.e, .int .u64 s4.f, .int .u64 s4.g, .int .u64 s4.h]) (.int .i64 (k : Int))).run Tryz.prog w' = .ok v w' := fun k v hk hv w' => run_index_arr Tryz.underlying63 Tryz.underlying48 info35 (stArr s4) k v hk hv w'
      have HX := show Hid _ from hidx
      clear hidx
      go_wp2_with fail
      go_loopw [26] (fun i wr => ∃ k : Nat, k ≤ 8 ∧ i = .int .i64 k ∧ Own wr M (sumL s4 k).toArray 26 ∧ W5.grownBy wr (some M)) (fun i _ => 8 - (intOf i).toNat)
      case atStart => exact ⟨0, by omega, rfl, oS, grown_refl _ _⟩
      case round =>
        clear oS hk hkl hki
        obtain ⟨k, hk, rfl, oS, hgr⟩ := hrel
        by_cases hlt : k < 8
        · have hv : (stArr s4)[k]? = some (.int .u64 ((stWords s4).getD k 0)) := by
            rcases k with _ | _ | _ | _ | _ | _ | _ | _ | k
            all_goals first | rfl | omega
          have hidx := HX.out k _ hlt hv
          have hx : 0 ≤ (stWords s4).getD k 0 ∧ (stWords s4).getD k 0 < 18446744073709551616 := by
            obtain ⟨x0, x1, x2, x3, x4, x5, x6, x7⟩ := ok4
            rcases k with _ | _ | _ | _ | _ | _ | _ | _ | k
            all_goals first | assumption | omega
          obtain ⟨L1, L2, hL1, e1, e2⟩ := sumL_split s4 k hlt
          have HE1 := show Hid _ from e1
          have HE2 := show Hid _ from e2
          clear e1 e2
          generalize (stWords s4).getD k 0 = x at *
          have hki : (k : Int) < 8 := by omega
          have hk32 : (8 * (k : Int)) ≤ 64 := by omega
          have hk0 : (0 : Int) ≤ 8 * (k : Int) := by omega
          have hkn : ¬ (64 = 8 * k) := by omega
          go_wp2_with fail
          refine (putWord_own M (8 * k) _ _ x _ _ _ oS (by have := sumL_length s4 k hk; simp; omega) (by omega) (by omega) hx.1 hx.2).mono ?_
          rintro e w6 ⟨rfl, oS6, hg6⟩
          rw [HE1.out, put8_list _ _ _ _ hL1.symm, ← HE2.out] at oS6
          go_wp2
          go_roundw
          case rel => exact ⟨k + 1, by omega, by go_num, oS6, grown_trans hgr hg6⟩
          case measure => simp [intOf]; omega
        · have Hk : Hid (k = 8) := show k = 8 by omega
          have hsz : (sumL s4 k).toArray.size = 64 := by rw [List.size_toArray]; exact sumL_length s4 k hk
          have hi : (Tryz.prog.info? 26).map (·.size) = some (sumL s4 k).toArray.size := by rw [info25, hsz]
          have oR6 : Own wr w.heap.size z64 26 := by unfold Own; rw [hgr.block _ oR5.lt (by simpa using hRM)]; exact oR5
          have h1 : (sumL s4 k).toArray.all (·.oneCell') = true := all_oneCell_toArray fun v hv => by
            rcases List.mem_append.1 hv with h | h
            · exact u8s_one _ _ h
            · obtain ⟨_, rfl⟩ := List.mem_replicate.1 h; rfl
          have hb6 := below_grown hb5 hgr hb5.size (by omega)
          have Hd : Hid ((sumL s4 k).toArray = dig l) := by
            show _ = _
            rw [Hk.out, sumL_eight, HS4.out]; rfl
          generalize (sumL s4 k).toArray = A at *
          have hfit : 0 + A.size ≤ z64.size := by rw [hsz, z64_size]; decide
          go_upto_region 14 with fail
          go_wp2_with (first | refine wpList_load_own (by rfl) 26 (.tmp 6) (by rfl) M (by rfl) A _ oS Tryz.underlying26 (by rfl) hi ?_ | refine wpList_store_own (by rfl) 26 (.tmp 2) (.tmp 36) (by rfl) w.heap.size 0 A (by rfl) (by rfl) oR6 hfit hi h1 (by rfl) ?_)
          refine bodyPost_ret (results_own Tryz.results19 _ _ w.heap.size A _ rfl (own_setCells oR6 (by rw [hsz, z64_size])) Tryz.underlying26 rfl hi) rfl ⟨by rw [Hd.out, Hl.out], ?_⟩
          exact Below.setCells _ _ _ _ (Nat.le_refl _) hb6
end Go.Proofs.YtfkcphbbabaefaaGreatDoor.H
namespace Go.Proofs.YtfkcphbbabaefaaGreatDoor.H
open Go.RowKit
theorem BytesV.take {w : World} {a : Option Addr} {len cap : Nat} {m : List Int} (h : BytesV w a len cap m) (q : Nat) (hq : q ≤ len) : BytesV w a q cap (m.take q) := by
  obtain ⟨h1, h2, h3, h4, h5⟩ := h
  refine ⟨by simp; omega, by omega, h3, fun x hx => h4 x (List.mem_of_mem_take hx), fun hp => ?_⟩
  obtain ⟨b, off, e, hr⟩ := h5 (by omega)
  exact ⟨b, off, e, by simpa using range_part hr 0 q⟩
theorem BytesV.drop {w : World} {a : Option Addr} {len cap : Nat} {m : List Int} (h : BytesV w a len cap m) (q : Nat) (hq : q ≤ len) : BytesV w (cutAddr a cap q) (len - q) (cap - q) (m.drop q) := by
  obtain ⟨h1, h2, h3, h4, h5⟩ := h
  refine ⟨by simp; omega, by omega, by omega, fun x hx => h4 x (List.mem_of_mem_drop hx), fun hp => ?_⟩
  obtain ⟨b, off, e, hr⟩ := h5 (by omega)
  refine ⟨b, off + q, ?_, ?_⟩
  · rw [cutAddr, if_neg (by omega), e]; simp [Addr.add_mid]
  · have := range_part hr q (m.drop q).length
    rwa [List.take_length] at this
theorem _root_.Go.Proofs.YtfkcphbbabaefaaGreatDoor.Own.grown {w w' : World} {b g : Nat} {A : Array Value} {t : TypeId} (h : Own w b A t) (hg : w.grownBy w' (some g)) (hb : b ≠ g) : Own w' b A t := by
  unfold Own; rw [hg.block b h.lt (by simpa using hb)]; exact h
theorem ShaAt.grown {w w' : World} {g b : Nat} {l : List Int} (h : ShaAt w b l) (hg : w.grownBy w' (some g)) (hb : b ≠ g) : ShaAt w' b l := by
  obtain ⟨bl, tl, htl, btl, ho, hrest⟩ := h
  exact ⟨bl, tl, htl, btl, ho.grown hg hb, hrest⟩
theorem bel {w a b : World} (h : Below w.heap.size w a) (k : Below a.heap.size a b) : Below w.heap.size w b := h.trans (k.mono h.size)
theorem belg {w a b : World} {g : Nat} (h : Below w.heap.size w a) (k : a.grownBy b (some g)) (hg : w.heap.size ≤ g) : Below w.heap.size w b := below_grown h k h.size hg
def OwnBytes (w : World) (base : Nat) (v : Value) (xs : List Int) : Prop := w.ownsRow base 5 1 v xs.length (u8s xs)
theorem OwnBytes.form {w : World} {base : Nat} {v : Value} {xs : List Int} (h : OwnBytes w base v xs) (hx : Bys xs) : ∃ a cap, v = .slice a xs.length cap ∧ BytesV w a xs.length cap xs := by
  obtain ⟨h1, ⟨h2, h3⟩ | ⟨g, cap, cur, h2, h3, h4, h5, h6, h7, h8⟩⟩ := h
  · obtain rfl := List.eq_nil_of_length_eq_zero h3
    exact ⟨none, 0, h2, rfl, Nat.le_refl _, by decide, fun x hx => by simp at hx, fun hp => absurd hp (by decide)⟩
  · refine ⟨some ⟨g, 0, none⟩, cap, h2, rfl, h5, h6, hx, fun _ => ⟨g, 0, rfl, fun j v hv => ?_⟩⟩
    rw [Nat.zero_add, cell_of_row w g j cur 5 (0, 0) h4, ← hv, ← h8]
    have hj : j < xs.length := by
      have := (List.getElem?_eq_some_iff.1 hv).1
      simpa [u8s] using this
    rw [List.getElem?_take, if_pos (by omega)]; simp
theorem OwnBytes.grown {w w' : World} {base g : Nat} {v : Value} {xs : List Int} (h : OwnBytes w base v xs) (hg : w.grownBy w' (some g)) (hb : g < base) : OwnBytes w' base v xs := by
  obtain ⟨h1, h2 | ⟨g', cap, cur, h2, h3, h4, h5⟩⟩ := h
  · exact ⟨h1, .inl h2⟩
  · refine ⟨h1, .inr ⟨g', cap, cur, h2, h3, ?_, h5⟩⟩
    rw [hg.block g' (Array.getElem?_eq_some_iff.1 h4).1 (by simp; omega)]; exact h4
theorem OwnBytes.below {w w' : World} {base : Nat} {v : Value} {xs : List Int} (h : OwnBytes w base v xs) (hB : Below w.heap.size w w') : OwnBytes w' base v xs := by
  obtain ⟨h1, h2 | ⟨g', cap, cur, h2, h3, h4, h5⟩⟩ := h
  · exact ⟨h1, .inl h2⟩
  · refine ⟨h1, .inr ⟨g', cap, cur, h2, h3, ?_, h5⟩⟩
    rw [hB.block g' (Array.getElem?_eq_some_iff.1 h4).1]; exact h4
theorem OwnBytes.base_le {w : World} {base g : Nat} {v : Value} {xs : List Int} (h : OwnBytes w base v xs) (hv : v.ownBlock = some g) : base ≤ g := by
  obtain ⟨h1, ⟨rfl, _⟩ | ⟨g', cap, cur, rfl, h3, _⟩⟩ := h
  · simp [Value.ownBlock] at hv
  · have : g' = g := by simpa [Value.ownBlock] using hv
    omega
theorem ownBytes_nil (w : World) (base : Nat) : OwnBytes w base (.slice none 0 0) [] := ⟨rfl, .inl ⟨rfl, rfl⟩⟩
theorem wpList_append_bytes {w : World} {ops : Array Oper} {rest : List Oper} {o : Oper} {a : Act} {Q : Exit → Act → World → Prop} (hgd : o.guard = none) (s x : Operand)
    (ho : o.op = .call { callee := .builtin .append, args := #[s, x], argTypes := #[23, 23] })
    (base : Nat) (v : Value) (xs : List Int) (hs : a.eval s = v) (hown : OwnBytes w base v xs) (bx : Bys xs)
    (sa : Option Addr) (len cap : Nat) (m : List Int) (hx : a.eval x = .slice sa len cap) (hm : BytesV w sa len cap m) (hn : sa = none → cap = 0)
    (hl : xs.length + m.length ≤ 1099511627776) (hbase : base ≤ w.heap.size)
    (h : ∀ a' cap' w', OwnBytes w' base (.slice a' (xs.length + m.length) cap') (xs ++ m) → w.grownBy w' v.ownBlock → BytesV w' a' (xs.length + m.length) cap' (xs ++ m) → wpList Tryz.prog ops Q rest (a.put o.dst (.slice a' (xs.length + m.length) cap')) w') :
    wpList Tryz.prog ops Q (o :: rest) a w := by
  have hb : Bys (xs ++ m) := fun y hy => (List.mem_append.1 hy).elim (bx y) (hm.2.2.2.1 y)
  obtain ⟨i, hi, hz, hsize, hby⟩ : ∃ i, Tryz.prog.info? 5 = some i ∧ i.zero = some (.int .u8 0) ∧ i.size = 1 ∧ i.bytes = 1 := by
    have := info5
    cases hq : Tryz.prog.info? 5 with
    | none => simp [hq] at this
    | some i => exact ⟨i, rfl, by simp [hq] at this; exact this⟩
  have close : ∀ v' w', OwnBytes w' base v' (xs ++ m) → w.grownBy w' v.ownBlock → wpList Tryz.prog ops Q rest (a.put o.dst v') w' := fun v' w' h1 h2 => by
    obtain ⟨a', cap', rfl, hv⟩ := h1.form hb
    rw [List.length_append] at h1 hv ⊢
    exact h a' cap' w' h1 h2 hv
  cases sa with
  | none =>
    obtain rfl := hn rfl
    have h0 : len = 0 := by
      rcases Nat.eq_zero_or_pos len with h | h
      · exact h
      · obtain ⟨b, off, e, _⟩ := hm.2.2.2.2 h; cases e
    subst h0
    have : m = [] := List.eq_nil_of_length_eq_zero hm.1.symm
    subst this
    refine wpList_append_own_none hgd s x 23 ho base 5 i 1 Tryz.underlying23 hi v xs.length (u8s xs) hs hown hx ?_
    exact close v w (by rw [List.append_nil]; exact hown) ⟨rfl, rfl, rfl, Nat.le_refl _, fun _ _ _ => rfl⟩
  | some ad =>
    refine wpList_append_own_at (P := Tryz.prog) w hgd s x 23 ho base 5 i (.int .u8 0) 1 1 Tryz.underlying23 hi hz hsize hby rfl (by decide) v xs.length (u8s xs) hs hown ad len cap (u8s m) hx (by rw [u8s, List.length_map, ← hm.1]; omega) (fun j u hu => ?_) (u8s_one _) (by rw [hm.1]; unfold maxLen; omega) (by rw [hm.1]; omega) hbase ?_
    · have hj : j < m.length := by
        have := (List.getElem?_eq_some_iff.1 hu).1
        simpa [u8s] using this
      obtain ⟨b, off, e, hr⟩ := hm.2.2.2.2 (by rw [hm.1]; omega)
      simp only [Option.some.injEq] at e
      rw [e, Addr.add_mid]; exact hr j u hu
    · intro v' w' h1 h2 _ _
      refine close v' w' ?_ h2
      have e : len = m.length := hm.1
      subst e
      unfold OwnBytes
      rw [List.length_append, u8s, List.map_append]; exact h1
def slv (p : Option Addr × Nat × List Int) : Value := .slice p.1 p.2.2.length p.2.1
theorem rowsV_new (w : World) (ps : List (Option Addr × Nat × List Int)) (h : ∀ p ∈ ps, BytesV w p.1 p.2.2.length p.2.1 p.2.2 ∧ (p.1 = none → p.2.1 = 0)) (hl : ps.length ≤ maxLen) :
    RowsV (w.alloc (.cells (ps.map slv).toArray 23)) (some ⟨w.heap.size, 0, none⟩) ps.length ps.length (ps.map (·.2.2)) := by
  refine ⟨by simp, Nat.le_refl _, hl, fun _ => ⟨_, _, rfl, fun i m hm => ?_⟩⟩
  rw [List.getElem?_map] at hm
  cases hp : ps[i]? with
  | none => simp [hp] at hm
  | some p =>
    rw [hp] at hm
    obtain rfl := Option.some.inj hm
    obtain ⟨h1, h2⟩ := h p (List.mem_of_getElem? hp)
    refine ⟨p.1, p.2.1, ?_, h1.below ((Below.refl _ _).alloc (Nat.le_refl _) _), h2⟩
    rw [Nat.zero_add, cell_of_row _ w.heap.size i _ 23 (0, 0) (heap_alloc_last w _)]
    simp [hp, slv]
theorem alloc_below (w : World) (o : Obj) : Below w.heap.size w (w.alloc o) := (Below.refl _ _).alloc (Nat.le_refl _) _
end Go.Proofs.YtfkcphbbabaefaaGreatDoor.H
namespace Go.Proofs.YtfkcphbbabaefaaGreatDoor.H
open Go.RowKit
theorem BytesV.at {w : World} {a : Option Addr} {len cap : Nat} {m : List Int} (h : BytesV w a len cap m) (k : Nat) (hk : k < len) : ∃ b off, a = some ⟨b, off, none⟩ ∧ w.cell? ⟨b, off + k, none⟩ = some (.int .u8 (m.getD k 0)) := by
  obtain ⟨b, off, e, hr⟩ := h.2.2.2.2 (by omega)
  have : k < m.length := by rw [← h.1]; exact hk
  exact ⟨b, off, e, hr k _ (by simp [u8s, this, List.getD])⟩
set_option maxRecDepth 100000 in
theorem bytes_any (a a' : Option Addr) (len cap cap' : Nat) (m : List Int) (w : World) (h1 : BytesV w a len cap m) (h2 : BytesV w a' len cap' m) :
    Calls Tryz.prog 11 #[.slice a len cap, .slice a' len cap'] w fun e w' => e = .returned (.bool true) ∧ Below w.heap.size w w' := by
  have hlM : len ≤ maxLen := Nat.le_trans h1.2.1 h1.2.2.1
  have hlm : (len : Int) ≤ 9223372036854775807 := by unfold maxLen at hlM; omega
  go_enter Tryz.func11, Tryz.ntmps11
  go_wp2_with fail
  go_loopw [5] (fun i wr => ∃ k : Nat, k ≤ len ∧ i = .int .i64 (k : Int) ∧ Below w.heap.size w wr) (fun i _ => len - (intOf i).toNat)
  case atStart => exact ⟨0, Nat.zero_le _, rfl, Below.refl _ _⟩
  case round =>
    obtain ⟨k, hk, rfl, hb⟩ := hrel
    by_cases hkl : k < len
    · have hki : (k : Int) < (len : Int) := by omega
      have hk0 : (0 : Int) ≤ (k : Int) := by omega
      obtain ⟨b, off, rfl, c1⟩ := (h1.below hb).at k hkl
      obtain ⟨b', off', rfl, c2⟩ := (h2.below hb).at k hkl
      generalize m.getD k 0 = x at *
      have hx : (x == x) = true := beq_self_eq_true x
      have hx' : (x != x) = false := by rw [bne, hx]; rfl
      go_wp2_with fail
      go_region
      go_wp2_with fail
      go_roundw
      case rel => exact ⟨k + 1, by omega, by go_num, hb.trans ((Below.refl _ _).drew)⟩
      case measure => simp [intOf]; omega
    · have hki : ¬ (k : Int) < (len : Int) := by omega
      go_wp2_with fail
      go_ret
      exact ⟨rfl, hb⟩
end Go.Proofs.YtfkcphbbabaefaaGreatDoor.H
