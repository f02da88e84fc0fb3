/- The walk of Sum. -/
import Derived.Test.YtgibllaifnnfkaaDoorHW5
namespace Go.Proofs.YtgibllaifnnfkaaDoor.H
open Go.RowKit

/-- The cells of a text of which nothing has come. -/
def newText : Array Value := shaArr start (List.replicate 128 0) 0
def zeroText : Array Value := shaArr ⟨0, 0, 0, 0, 0, 0, 0, 0⟩ (List.replicate 128 0) 0
theorem zeroText_size : zeroText.size = 137 := shaArr_size _ _ _ (by simp)
theorem newText_size : newText.size = 137 := shaArr_size _ _ _ (by simp)
/-- Noughts as many as a sum has bytes. -/
def z64 : Array Value := Array.replicate 64 (.int .u8 0)
theorem z64_size : z64.size = 64 := by simp [z64]
theorem zero39 : (Tryd.prog.info? 67).map (fun i => (i.zero, i.size)) = some (some (.agg zeroText), 137) := by kernel_rfl
theorem zero25 : (Tryd.prog.info? 24).map (fun i => (i.zero, i.size)) = some (some (.agg z64), 64) := by kernel_rfl
theorem info39 : (Tryd.prog.info? 67).map (·.size) = some 137 := by kernel_rfl
theorem info25 : (Tryd.prog.info? 24).map (·.size) = some 64 := by kernel_rfl
theorem shaArr_one (s : St) (tl : List Int) (n : Int) : (shaArr s tl n).all (·.oneCell') = true := all_oneCell_toArray fun v hv => by
  simp only [shaL, List.mem_cons, List.mem_append, List.not_mem_nil, or_false] at hv
  rcases hv with rfl | rfl | rfl | rfl | rfl | rfl | rfl | rfl | hv | rfl <;> first | rfl | exact u8s_one _ _ hv
theorem shaAt_new (w : World) (g : Nat) (ho : Own w g newText 67) : ShaAt w g [] :=
  ⟨fun _ h => by simp at h, _, by simp, fun x h => by obtain ⟨_, rfl⟩ := List.mem_replicate.1 h; decide, ho, rfl⟩

/-- The value of a slice of the bytes m. -/
def BytesV (w : World) (a : Option Addr) (len cap : Nat) (m : List Int) : Prop :=
  len = m.length ∧ len ≤ cap ∧ cap ≤ maxLen ∧ Bys m ∧ (0 < len → ∃ b off, a = some ⟨b, off, none⟩ ∧ w.rangeAt b off (u8s m))
theorem BytesV.below {w w' : World} {a : Option Addr} {len cap : Nat} {m : List Int} (h : BytesV w a len cap m) (hB : Below w.heap.size w w') : BytesV w' a len cap m := by
  obtain ⟨h1, h2, h3, h4, h5⟩ := h
  refine ⟨h1, h2, h3, h4, fun hp => ?_⟩
  obtain ⟨b, off, e, hr⟩ := h5 hp
  exact ⟨b, off, e, fun j v hv => by
    have := hr j v hv
    rw [hB.cell (World.block_lt_of_cell? w _ this)]; exact this⟩
theorem range_lt {w : World} {b off : Nat} {m : List Int} (h : w.rangeAt b off (u8s m)) (hm : 0 < m.length) : b < w.heap.size :=
  World.block_lt_of_cell? w _ (h 0 (.int .u8 (m[0])) (by simp [u8s, hm]))
theorem BytesV.slice {w w' : World} {a : Option Addr} {len cap g : Nat} {m : List Int} (h : BytesV w a len cap m) (hB : Below w.heap.size w w') (hg : w.heap.size ≤ g) : SliceOf w' g (.slice a len cap) m := by
  have h' := h.below hB
  obtain ⟨h1, h2, h3, h4, h5⟩ := h'
  refine ⟨a, len, cap, rfl, h1, h2, h3, h4, fun hp => ?_⟩
  obtain ⟨b, off, e, hr⟩ := h5 hp
  obtain ⟨b', off', e', hr'⟩ := h.2.2.2.2 hp
  have hlt := range_lt hr' (by omega)
  rw [e] at e'
  simp only [Option.some.injEq, Addr.mk.injEq] at e'
  exact ⟨b, off, e, by omega, hr⟩
theorem Tabs.below {w w' : World} (h : Tabs w) (hB : Below w.heap.size w w') : Tabs w' := h.grown (g := w.heap.size) (grown_below hB _) ⟨h.2.1, h.1.1⟩
theorem ShaAt.below {w w' : World} {g B : Nat} {l : List Int} (h : ShaAt w g l) (hB : Below B w w') (hg : g < B) : ShaAt w' g l := by
  obtain ⟨bl, tl, htl, btl, ho, hrest⟩ := h
  exact ⟨bl, tl, htl, btl, ho.below hB hg, hrest⟩
theorem ShaAt.lt {w : World} {g : Nat} {l : List Int} (h : ShaAt w g l) : g < w.heap.size := by
  obtain ⟨bl, tl, htl, btl, ho, hrest⟩ := h
  exact ho.lt
theorem digest_length (l : List Int) : (digest l).length = 64 := by
  have := sumL_length (endSt l) 8 (by omega)
  rw [sumL_eight, u8s, List.length_map] at this; exact this
/-- The cells of a text's sum. -/
def dig (l : List Int) : Array Value := (u8s (digest l)).toArray
theorem dig_size (l : List Int) : (dig l).size = 64 := by rw [dig, List.size_toArray, u8s, List.length_map]; exact digest_length l
theorem dig_info (l : List Int) : (Tryd.prog.info? 24).map (·.size) = some (dig l).size := by rw [info25, dig_size]
theorem dig_one (l : List Int) : (dig l).all (·.oneCell') = true := all_oneCell_toArray (u8s_one _)

/-- The value of a slice of slices of bytes. -/
def RowsV (w : World) (a : Option Addr) (len cap : Nat) (ms : List (List Int)) : Prop :=
  len = ms.length ∧ len ≤ cap ∧ cap ≤ maxLen ∧ (0 < len → ∃ b off, a = some ⟨b, off, none⟩ ∧ ∀ i m, ms[i]? = some m → ∃ a' cap', w.cell? ⟨b, off + i, none⟩ = some (.slice a' m.length cap') ∧ BytesV w a' m.length cap' m ∧ (a' = none → cap' = 0))
theorem RowsV.below {w w' : World} {a : Option Addr} {len cap : Nat} {ms : List (List Int)} (h : RowsV w a len cap ms) (hB : Below w.heap.size w w') : RowsV w' a len cap ms := by
  obtain ⟨h1, h2, h3, h4⟩ := h
  refine ⟨h1, h2, h3, fun hp => ?_⟩
  obtain ⟨b, off, e, hr⟩ := h4 hp
  refine ⟨b, off, e, fun i m hm => ?_⟩
  obtain ⟨a', cap', hc, hv, hn⟩ := hr i m hm
  exact ⟨a', cap', by rw [hB.cell (World.block_lt_of_cell? w _ hc)]; exact hc, hv.below hB, hn⟩
theorem RowsV.at {w : World} {a : Option Addr} {len cap : Nat} {ms : List (List Int)} (h : RowsV w a len cap ms) (k : Nat) (hk : k < len) :
    ∃ b off m a' cap', a = some ⟨b, off, none⟩ ∧ ms[k]? = some m ∧ w.cell? ⟨b, off + k, none⟩ = some (.slice a' m.length cap') ∧ BytesV w a' m.length cap' m ∧ (a' = none → cap' = 0) := by
  obtain ⟨b, off, e, hr⟩ := h.2.2.2 (by omega)
  have hk' : k < ms.length := by rw [← h.1]; exact hk
  obtain ⟨a', cap', hc, hv, hn⟩ := hr k ms[k] (List.getElem?_eq_getElem hk')
  exact ⟨b, off, ms[k], a', cap', e, List.getElem?_eq_getElem hk', hc, hv, hn⟩
/-- The first k parts, one behind the other. -/
def upTo (ms : List (List Int)) (k : Nat) : List Int := (ms.take k).flatten
theorem upTo_succ (ms : List (List Int)) (k : Nat) (m : List Int) (h : ms[k]? = some m) : upTo ms (k + 1) = upTo ms k ++ m := by
  obtain ⟨hk, e⟩ := List.getElem?_eq_some_iff.1 h
  rw [upTo, upTo, List.take_succ_eq_append_getElem hk, e]; simp
theorem upTo_all (ms : List (List Int)) (k : Nat) (h : ms.length ≤ k) : upTo ms k = ms.flatten := by rw [upTo, List.take_of_length_le h]
theorem upTo_le (ms : List (List Int)) (k : Nat) : (upTo ms k).length ≤ ms.flatten.length := by
  have : ms.flatten = upTo ms k ++ (ms.drop k).flatten := by rw [upTo, ← List.flatten_append, List.take_append_drop]
  rw [this, List.length_append]; omega

theorem wpList_value {P : Program} {ops : Array Oper} {rest : List Oper} {op : Oper} {a : Act} {w : World} {Q : Exit → Act → World → Prop} (hgd : op.guard = none) (v : Value) (hrun : (execOp a.eval op).run P w = .ok (.value v) w)
    (h : wpList P ops Q rest (a.put op.dst v) w) : wpList P ops Q (op :: rest) a w :=
  wpList_plain hgd fun _ hK => by
    unfold Oper.wp
    rw [hrun]
    exact hK _ _ h
theorem wpList_build {P : Program} {ops : Array Oper} {rest : List Oper} {op : Oper} {a : Act} {w : World} {Q : Exit → Act → World → Prop} (hgd : op.guard = none) (t : TypeId) (fs : Array (Nat × Operand)) (_ho : op.op = .build t fs) (v : Value) (hrun : (execOp a.eval op).run P w = .ok (.value v) w)
    (h : wpList P ops Q rest (a.put op.dst v) w) : wpList P ops Q (op :: rest) a w := wpList_value hgd v hrun h

set_option maxRecDepth 100000 in
set_option maxHeartbeats 4000000 in
theorem sum_any (a : Option Addr) (len cap : Nat) (ms : List (List Int)) (w : World) (hR : RowsV w a len cap ms) (hT : Tabs w) (hn : ms.flatten.length ≤ 16000000) :
    Calls Tryd.prog 19 #[.slice a len cap] w fun e w' => e = .returned (.agg (dig ms.flatten)) ∧ Below w.heap.size w w' := by
  have hz := (zero_of_info zero39).1
  have hz2 := (zero_of_info zero25).1
  have hlM : len ≤ maxLen := Nat.le_trans hR.2.1 hR.2.2.1
  have hlm : (len : Int) ≤ 9223372036854775807 := by unfold maxLen at hlM; omega
  go_enter Tryd.func19, Tryd.ntmps19
  go_upto_region 1 with fail
  have oR := own_new w z64 24
  have hb1 := (Below.refl w.heap.size w).alloc (Nat.le_refl _) (.cells z64 24)
  have hlt1 : w.heap.size < (w.alloc (.cells z64 24)).heap.size := by simp
  have hT1 := hT.below hb1
  generalize w.alloc (.cells z64 24) = W1 at *
  go_upto_region 2 with (first
    | refine wpList_load_mid (by rfl) 58 (.global 1) (by rfl) 1 0 (by rfl) (stArr start).toList _ hT1.2.2 Tryd.underlying58 (by rfl) info36 ?_
    | refine wpList_store_new (by rfl) 67 (.tmp 3) (.tmp 10) (by rfl) _ newText (by rfl) (by rfl) (by rw [info39, newText_size]) (by rw [newText_size, zeroText_size]) (shaArr_one _ _ _) (by rfl) ?_
    | refine wpList_build (by rfl) 67 #[(0, .tmp 9)] (by rfl) (.agg newText) (by kernel_rfl) ?_)
  have oE := own_new W1 newText 67
  have oR := oR.alloc (.cells newText 67)
  have hb2 := hb1.alloc hb1.size (.cells newText 67)
  have hE : w.heap.size < W1.heap.size := hlt1
  generalize W1.alloc (.cells newText 67) = W2 at *
  have hS := shaAt_new W2 W1.heap.size oE
  generalize W1.heap.size = E at *
  have hg1 : 1 < E ∧ 7 < E := ⟨Nat.lt_trans hT.2.1 hE, Nat.lt_trans hT.1.1 hE⟩
  clear hz oE hT1
  go_wp2_with fail
  go_loopw [13] (fun i wr => ∃ k : Nat, k ≤ len ∧ i = .int .i64 k ∧ ShaAt wr E (upTo ms k) ∧ Own wr w.heap.size z64 24 ∧ Below w.heap.size w wr) (fun i _ => len - (intOf i).toNat)
  case atStart => exact ⟨0, Nat.zero_le _, rfl, hS, oR, hb2⟩
  case round =>
    clear hS oR hb2
    obtain ⟨k, hk, rfl, hS, oR, hb⟩ := hrel
    by_cases hkl : k < len
    · have hki : (k : Int) < (len : Int) := by omega
      have hk0 : (0 : Int) ≤ (k : Int) := by omega
      obtain ⟨b, off, m, a', cap', rfl, hm, hc, hv, -⟩ := hR.at k hkl
      have hc' : wr.cell? ⟨b, off + k, none⟩ = some (.slice a' m.length cap') := by rw [hb.cell (World.block_lt_of_cell? w _ hc)]; exact hc
      have hsl := hv.slice (g := E) hb (Nat.le_of_lt hE)
      have hus := upTo_succ ms k m hm
      have hul := upTo_le ms (k + 1)
      rw [hus, List.length_append] at hul
      have HU := show Hid _ from hus
      clear hus hc hm
      go_wp2_with fail
      refine (write_any E (upTo ms k) m _ _ _ _ hS hsl (hT.below hb) hg1 (by omega)).mono ?_
      rintro e w3 ⟨rfl, hS3, hg3⟩
      rw [← HU.out] at hS3
      go_wp2
      go_roundw
      case rel => exact ⟨k + 1, by omega, by go_num, hS3, by unfold Own; rw [hg3.block _ oR.lt (by simp; omega)]; exact oR, below_grown hb hg3 hb.size (by omega)⟩
      case measure => simp [intOf]; omega
    · have hki : ¬ (k : Int) < (len : Int) := by omega
      have hall : upTo ms k = ms.flatten := upTo_all ms k (by have := hR.1; omega)
      rw [hall] at hS
      clear hall
      obtain ⟨l, Hl⟩ : ∃ l, Hid (l = ms.flatten) := ⟨_, rfl⟩
      rw [← Hl.out] at hS hn
      obtain ⟨bl, tl, htl, btl, oE, hrest⟩ := hS
      have c136 := oE.cell (shaArr_len (stOf l) tl l.length htl)
      have hT2 := hT.below hb
      go_wp2_with fail
      refine (pad_any l.length _ (by omega)).mono ?_
      rintro e w3 ⟨rfl, oP, hb3⟩
      have hb23 := hb.trans (hb3.mono hb.size)
      have hT3 : Tabs w3 := hT.below hb23
      have hSE3 : ShaAt w3 E l := ⟨bl, tl, htl, btl, oE.below hb3 oE.lt, hrest⟩
      have hpl := padL_length l.length
      have hnt : noughts l.length ≤ 127 := by unfold noughts; omega
      have oR3 := oR.below hb3 oR.lt
      have hEl := oE.lt
      have hSl : SliceOf w3 E (.slice (some ⟨wr.heap.size, 0, none⟩) (padL l.length).length (padL l.length).length) (padL l.length) :=
        ⟨_, _, _, rfl, rfl, Nat.le_refl _, by rw [hpl]; unfold maxLen; omega, padL_bys _, fun _ => ⟨wr.heap.size, 0, rfl, by omega, by simpa using oP.range⟩⟩
      have hpn : Hid (l.length + (padL l.length).length ≤ 1099511627776) := by show _ ≤ _; rw [hpl]; omega
      clear c136 hpl
      go_wp2_with fail
      refine (write_any E l (padL l.length) _ _ _ _ hSE3 hSl hT3 hg1 hpn.out).mono ?_
      rintro e w4 ⟨rfl, hS4, hg4⟩
      have hb4 := below_grown hb23 hg4 hb23.size (by omega)
      have oR4 : Own w4 w.heap.size z64 24 := by unfold Own; rw [hg4.block _ oR3.lt (by simp; omega)]; exact oR3
      have hlt4 := oR4.lt
      obtain ⟨_, tl4, htl4, btl4, ho4, _⟩ := hS4
      obtain ⟨s4, HS4⟩ : ∃ s4, Hid (s4 = endSt l) := ⟨_, rfl⟩
      have ok4 : s4.ok := by rw [HS4.out]; exact stOf_ok _
      rw [show stOf (l ++ padL l.length) = s4 from HS4.out.symm] at ho4
      clear hSl hSE3 hT3 hT2 oR3 oP hb3 oE hb hb23 oR
      go_upto_region 9 with fail
      have oS := own_new w4 z64 24
      have ho5 := ho4.alloc (.cells z64 24)
      have oR5 := oR4.alloc (.cells z64 24)
      have hb5 := hb4.alloc hb4.size (.cells z64 24)
      generalize w4.alloc (.cells z64 24) = W5 at *
      clear oR4 hb4 ho4 hg4
      generalize w4.heap.size = M at *
      have hRM : w.heap.size ≠ M := by omega
      obtain ⟨c0, c1, c2, c3, c4, c5, c6, c7, fz⟩ := sha_facts ho5
      have oS : Own W5 M (sumL s4 0).toArray 24 := oS
      have hidx : ∀ (k : Nat) (v : Value), k < 8 → (stArr s4)[k]? = some v → ∀ w', (Instr.index 58 (.agg #[.int .u64 s4.a, .int .u64 s4.b, .int .u64 s4.c, .int .u64 s4.d, .int .u64 s4.e, .int .u64 s4.f, .int .u64 s4.g, .int .u64 s4.h]) (.int .i64 (k : Int))).run Tryd.prog w' = .ok v w' := fun k v hk hv w' => run_index_arr Tryd.underlying58 Tryd.underlying57 info35 (stArr s4) k v hk hv w'
      have HX := show Hid _ from hidx
      clear hidx
      go_wp2_with fail
      go_loopw [26] (fun i wr => ∃ k : Nat, k ≤ 8 ∧ i = .int .i64 k ∧ Own wr M (sumL s4 k).toArray 24 ∧ W5.grownBy wr (some M)) (fun i _ => 8 - (intOf i).toNat)
      case atStart => exact ⟨0, by omega, rfl, oS, grown_refl _ _⟩
      case round =>
        clear oS hk hkl hki
        obtain ⟨k, hk, rfl, oS, hgr⟩ := hrel
        by_cases hlt : k < 8
        · have hv : (stArr s4)[k]? = some (.int .u64 ((stWords s4).getD k 0)) := by
            rcases k with _ | _ | _ | _ | _ | _ | _ | _ | k
            all_goals first | rfl | omega
          have hidx := HX.out k _ hlt hv
          have hx : 0 ≤ (stWords s4).getD k 0 ∧ (stWords s4).getD k 0 < 18446744073709551616 := by
            obtain ⟨x0, x1, x2, x3, x4, x5, x6, x7⟩ := ok4
            rcases k with _ | _ | _ | _ | _ | _ | _ | _ | k
            all_goals first | assumption | omega
          obtain ⟨L1, L2, hL1, e1, e2⟩ := sumL_split s4 k hlt
          have HE1 := show Hid _ from e1
          have HE2 := show Hid _ from e2
          clear e1 e2
          generalize (stWords s4).getD k 0 = x at *
          have hki : (k : Int) < 8 := by omega
          have hk32 : (8 * (k : Int)) ≤ 64 := by omega
          have hk0 : (0 : Int) ≤ 8 * (k : Int) := by omega
          have hkn : ¬ (64 = 8 * k) := by omega
          go_wp2_with fail
          refine (putWord_own M (8 * k) _ _ x _ _ _ oS (by have := sumL_length s4 k hk; simp; omega) (by omega) (by omega) hx.1 hx.2).mono ?_
          rintro e w6 ⟨rfl, oS6, hg6⟩
          rw [HE1.out, put8_list _ _ _ _ hL1.symm, ← HE2.out] at oS6
          go_wp2
          go_roundw
          case rel => exact ⟨k + 1, by omega, by go_num, oS6, grown_trans hgr hg6⟩
          case measure => simp [intOf]; omega
        · have Hk : Hid (k = 8) := show k = 8 by omega
          have hsz : (sumL s4 k).toArray.size = 64 := by rw [List.size_toArray]; exact sumL_length s4 k hk
          have hi : (Tryd.prog.info? 24).map (·.size) = some (sumL s4 k).toArray.size := by rw [info25, hsz]
          have oR6 : Own wr w.heap.size z64 24 := by unfold Own; rw [hgr.block _ oR5.lt (by simpa using hRM)]; exact oR5
          have h1 : (sumL s4 k).toArray.all (·.oneCell') = true := all_oneCell_toArray fun v hv => by
            rcases List.mem_append.1 hv with h | h
            · exact u8s_one _ _ h
            · obtain ⟨_, rfl⟩ := List.mem_replicate.1 h; rfl
          have hb6 := below_grown hb5 hgr hb5.size (by omega)
          have Hd : Hid ((sumL s4 k).toArray = dig l) := by
            show _ = _
            rw [Hk.out, sumL_eight, HS4.out]; rfl
          generalize (sumL s4 k).toArray = A at *
          have hfit : 0 + A.size ≤ z64.size := by rw [hsz, z64_size]; decide
          go_upto_region 14 with fail
          go_wp2_with (first | refine wpList_load_own (by rfl) 24 (.tmp 6) (by rfl) M (by rfl) A _ oS Tryd.underlying24 (by rfl) hi ?_ | refine wpList_store_own (by rfl) 24 (.tmp 2) (.tmp 36) (by rfl) w.heap.size 0 A (by rfl) (by rfl) oR6 hfit hi h1 (by rfl) ?_)
          refine bodyPost_ret (results_own Tryd.results19 _ _ w.heap.size A _ rfl (own_setCells oR6 (by rw [hsz, z64_size])) Tryd.underlying24 rfl hi) rfl ⟨by rw [Hd.out, Hl.out], ?_⟩
          exact Below.setCells _ _ _ _ (Nat.le_refl _) hb6
end Go.Proofs.YtgibllaifnnfkaaDoor.H
