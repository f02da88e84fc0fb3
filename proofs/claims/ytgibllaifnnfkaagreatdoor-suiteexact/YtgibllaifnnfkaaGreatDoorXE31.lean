/- Of the texts HV3, SC1: what the card of this claim reaches. -/
import Derived.Test.YtgibllaifnnfkaaGreatDoorXE30
import Derived.Deep.CutBlock
import Derived.Test.YtgibllaifnnfkaaGreatDoorXE27
import Derived.Test.YtgibllaifnnfkaaGreatDoorXE29
namespace Go.Proofs.YtgibllaifnnfkaaGreatDoor.H
open Go.RowKit
structure Base (w : World) (R K : Nat) (pa : Option Addr) (pc : Nat) (P : List Int) (w' : World) : Prop where
  res : Own w' R z64 24
  tab : Own w' K kArr 109
  txt : BytesV w' pa P.length pc P
  bel : Below w.heap.size w w'
theorem Base.below {w : World} {R K : Nat} {pa : Option Addr} {pc : Nat} {P : List Int} {a b : World} (h : Base w R K pa pc P a) (hB : Below a.heap.size a b) : Base w R K pa pc P b :=
  ⟨h.res.below hB h.res.lt, h.tab.below hB h.tab.lt, h.txt.below hB, Go.Proofs.YtgibllaifnnfkaaGreatDoor.H.bel h.bel hB⟩
theorem at_back' (f : Nat → Int) (k c : Nat) (ci : Int) (hci : ci = c) (hk : k ≤ 80) (h : c ≤ k) (hc : 0 < c) : ∃ (i : Nat) (v : Int), IntKind.i64.wrap ((k : Int) - ci) = (i : Int) ∧ (wordsArr (sched f k))[i]? = some (.int .u64 v) ∧ (i : Int) < 80 ∧ (0 : Int) ≤ (i : Int) ∧ Hid (v = (sched f k).getD (k - c) 0) ∧ k ≠ i :=
  ⟨k - c, _, by rw [hci, i64_sub k c hk (by omega) (by omega)]; omega, wordsArr_old _ _ (by rw [sched_length]; omega), by omega, by omega, rfl, by omega⟩
theorem wrap_64 (x : Int) : IntKind.u64.wrap x = x % 18446744073709551616 := by
  simp [IntKind.wrap, IntKind.bits, IntKind.signed]
theorem sum_u64 (a b c d : Int) : IntKind.u64.wrap (IntKind.u64.wrap (IntKind.u64.wrap (a + b) + c) + d) = add4 a c b d := by
  rw [add4]; simp only [wrap_64]; omega
theorem wordsArr_same (l : List Int) (h : l.length < 80) : (wordsArr l).setIfInBounds l.length (.int .u64 0) = wordsArr l := by
  apply Array.ext_getElem?
  intro i
  rw [Array.getElem?_setIfInBounds]
  split
  · rename_i e
    rw [← e]
    have := wordsArr_new l h
    split
    · exact this.symm
    · rename_i h2; rw [wordsArr_size l (by omega)] at h2; omega
  · rfl
theorem Base.set {w : World} {R K : Nat} {pb po : Nat} {pc : Nat} {P : List Int} {a b : World} {g : Nat} (h : Base w R K (some ⟨pb, po, none⟩) pc P a) (hg : a.grownBy b (some g)) (h1 : R ≠ g) (h2 : K ≠ g) (h3 : pb ≠ g) (h4 : w.heap.size ≤ g) : Base w R K (some ⟨pb, po, none⟩) pc P b := by
  refine ⟨h.res.grown hg h1, h.tab.grown hg h2, ?_, belg h.bel hg h4⟩
  obtain ⟨k1, k2, k3, k4, k5⟩ := h.txt
  refine ⟨k1, k2, k3, k4, fun hp => ?_⟩
  obtain ⟨b', off, e, hr⟩ := k5 hp
  simp only [Option.some.injEq, Addr.mk.injEq] at e
  obtain ⟨rfl, rfl, _⟩ := e
  exact ⟨_, _, rfl, range_grown hr hg h3⟩
theorem Base.byte {w : World} {R K : Nat} {pb po : Nat} {pc : Nat} {P : List Int} {a : World} (h : Base w R K (some ⟨pb, po, none⟩) pc P a) (i : Nat) (hi : i < P.length) : a.cell? ⟨pb, po + i, none⟩ = some (.int .u8 (P.getD i 0)) := by
  obtain ⟨b', off, e, hr⟩ := h.txt.2.2.2.2 (by omega)
  simp only [Option.some.injEq, Addr.mk.injEq] at e
  obtain ⟨rfl, rfl, _⟩ := e
  exact hr i _ (by simp [u8s, hi, List.getD])
def addTo (s r : St) (k : Nat) : List Int := (stWords (addSt s r)).take k ++ (stWords s).drop k
theorem addTo_eight (s r : St) : ((addTo s r 8).map (Value.int .u64)).toArray = stArr (addSt s r) := rfl
theorem addTo_at (s r : St) (k : Nat) (h : k < 8) : ((addTo s r k).map (Value.int .u64)).toArray[k]? = some (.int .u64 ((stWords s).getD k 0)) := by
  rcases k with _ | _ | _ | _ | _ | _ | _ | _ | k
  all_goals first | rfl | omega
theorem stArr_at (s : St) (k : Nat) (h : k < 8) : (stArr s)[k]? = some (.int .u64 ((stWords s).getD k 0)) := by
  rcases k with _ | _ | _ | _ | _ | _ | _ | _ | k
  all_goals first | rfl | omega
theorem addTo_step (s r : St) (k : Nat) (h : k < 8) : ((addTo s r k).map (Value.int .u64)).toArray.setIfInBounds k (.int .u64 (IntKind.u64.wrap ((stWords s).getD k 0 + (stWords r).getD k 0))) = ((addTo s r (k + 1)).map (Value.int .u64)).toArray := by
  rcases k with _ | _ | _ | _ | _ | _ | _ | _ | k
  all_goals first | (simp [addTo, stWords, addSt]; done) | omega
theorem st_facts {w : World} {g : Nat} {s : St} {t : TypeId} (h : Own w g (stArr s) t) :
    w.cell? ⟨g, 0, none⟩ = some (.int .u64 s.a) ∧ w.cell? ⟨g, 1, none⟩ = some (.int .u64 s.b) ∧ w.cell? ⟨g, 2, none⟩ = some (.int .u64 s.c) ∧ w.cell? ⟨g, 3, none⟩ = some (.int .u64 s.d) ∧ w.cell? ⟨g, 4, none⟩ = some (.int .u64 s.e) ∧ w.cell? ⟨g, 5, none⟩ = some (.int .u64 s.f) ∧ w.cell? ⟨g, 6, none⟩ = some (.int .u64 s.g) ∧ w.cell? ⟨g, 7, none⟩ = some (.int .u64 s.h) :=
  ⟨h.cell rfl, h.cell rfl, h.cell rfl, h.cell rfl, h.cell rfl, h.cell rfl, h.cell rfl, h.cell rfl⟩
def outArr (s : St) (k : Nat) : Array Value := (u8s ((sumBytes s).take k) ++ List.replicate (64 - k) (Value.int .u8 0)).toArray
theorem sumBytes_length (s : St) : (sumBytes s).length = 64 := by rw [sumBytes, flat_length]; rfl
theorem outArr_zero (s : St) : outArr s 0 = z64 := rfl
theorem outArr_full (s : St) : outArr s 64 = (u8s (sumBytes s)).toArray := by
  rw [outArr, List.take_of_length_le (by rw [sumBytes_length]; decide)]; simp
theorem sumBytes_at (s : St) (i j : Nat) (hi : i < 8) (hj : j < 8) : (sumBytes s)[8 * i + j]? = some ((stWords s).getD i 0 / 2 ^ (56 - 8 * j) % 256) := by
  rcases j with _ | _ | _ | _ | _ | _ | _ | _ | j
  all_goals first | omega | (rcases i with _ | _ | _ | _ | _ | _ | _ | _ | i <;> first | omega | rfl)
theorem outArr_at (s : St) (k : Nat) (hk : k < 64) : (outArr s k)[k]? = some (.int .u8 0) := by
  have hl := sumBytes_length s
  rw [outArr, List.getElem?_toArray, List.getElem?_append_right (by simp [u8s]; omega), show k - (u8s ((sumBytes s).take k)).length = 0 from by simp [u8s]; omega, show 64 - k = (64 - (k + 1)) + 1 from by omega, List.replicate_succ]
  rfl
theorem outArr_step (s : St) (k : Nat) (y : Int) (hk : k < 64) (hy : (sumBytes s)[k]? = some y) : (outArr s k).setIfInBounds k (.int .u8 y) = outArr s (k + 1) := by
  have hl := sumBytes_length s
  have hkl : k < (sumBytes s).length := by omega
  rw [List.getElem?_eq_getElem hkl] at hy
  rw [outArr, outArr, List.take_succ_eq_append_getElem hkl, Option.some.inj hy, show 64 - k = (64 - (k + 1)) + 1 from by omega, List.replicate_succ, List.setIfInBounds_toArray]
  congr 1
  rw [List.set_append_right _ _ (by simp [u8s]; omega), show k - (u8s ((sumBytes s).take k)).length = 0 from by simp [u8s]; omega]
  simp [u8s]
theorem st_frozen {w : World} {g : Nat} {s : St} {t : TypeId} (h : Own w g (stArr s) t) :
    w.frozen? ⟨g, 0, none⟩ = false ∧ w.frozen? ⟨g, 1, none⟩ = false ∧ w.frozen? ⟨g, 2, none⟩ = false ∧ w.frozen? ⟨g, 3, none⟩ = false ∧ w.frozen? ⟨g, 4, none⟩ = false ∧ w.frozen? ⟨g, 5, none⟩ = false ∧ w.frozen? ⟨g, 6, none⟩ = false ∧ w.frozen? ⟨g, 7, none⟩ = false :=
  ⟨h.frozen _, h.frozen _, h.frozen _, h.frozen _, h.frozen _, h.frozen _, h.frozen _, h.frozen _⟩
theorem eight_cells (w : World) (g : Nat) (c0 c1 c2 c3 c4 c5 c6 c7 : Value) : (((((((w.setCell ⟨g, 0, none⟩ c0).setCell ⟨g, 1, none⟩ c1).setCell ⟨g, 2, none⟩ c2).setCell ⟨g, 3, none⟩ c3).setCell ⟨g, 4, none⟩ c4).setCell ⟨g, 5, none⟩ c5).setCell ⟨g, 6, none⟩ c6).setCell ⟨g, 7, none⟩ c7 = w.setCells g 0 [c0, c1, c2, c3, c4, c5, c6, c7] := rfl
theorem ones_is : ones = IntKind.u64.max := by unfold ones; rw [if_neg (by decide)]
theorem tone_is (kk wk : Int) (r : St) : IntKind.u64.wrap (IntKind.u64.wrap (IntKind.u64.wrap (IntKind.u64.wrap (r.h + bits BinOp.xor IntKind.u64 (bits BinOp.xor IntKind.u64 (rotl r.e 50) (rotl r.e 46)) (rotl r.e 23)) + bits BinOp.xor IntKind.u64 (bits BinOp.and IntKind.u64 r.e r.f) (bits BinOp.and IntKind.u64 (bits BinOp.xor IntKind.u64 IntKind.u64.max r.e) r.g)) + kk) + wk) = tone kk wk r := by
  rw [← ones_is]; rfl
theorem ttwo_is (r : St) : IntKind.u64.wrap (bits BinOp.xor IntKind.u64 (bits BinOp.xor IntKind.u64 (rotl r.a 36) (rotl r.a 30)) (rotl r.a 25) + bits BinOp.xor IntKind.u64 (bits BinOp.xor IntKind.u64 (bits BinOp.and IntKind.u64 r.a r.b) (bits BinOp.and IntKind.u64 r.a r.c)) (bits BinOp.and IntKind.u64 r.b r.c)) = ttwo r := rfl
set_option maxRecDepth 100000 in
set_option maxHeartbeats 20000000 in
theorem ref_any (a : Option Addr) (cap : Nat) (m : List Int) (w : World) (hm : BytesV w a m.length cap m) (hcap : a = none → cap = 0) (hl : m.length ≤ 1000000) :
    Calls Tryz.prog 45 #[.slice a m.length cap] w fun e w' => e = .returned (.agg (dig m)) ∧ Below w.heap.size w w' := by
  have hz := (zero_of_info zero43).1
  have hz2 := (zero_of_info zero25).1
  go_enter Tryz.func45, Tryz.ntmps45
  go_upto_region 1 with fail
  have oR := own_new w z64 24
  have hb1 := (Below.refl w.heap.size w).alloc (Nat.le_refl _) (.cells z64 24)
  generalize w.alloc (.cells z64 24) = W1 at *
  go_wp2_with fail
  refine (k512_any _).mono ?_
  rintro e w2 ⟨rfl, hb2⟩
  have oR2 := oR.below hb2 oR.lt
  have hb12 := bel hb1 hb2
  clear oR hb1 hb2
  have hki := kArr_info
  have hks := kArr_size
  go_upto_region 2 with (refine wpList_store_new (by rfl) 109 (.tmp 3) (.tmp 21) (by rfl) _ kArr (by rfl) (by rfl) hki (by rw [hks]; rfl) kArr_one (by rfl) ?_)
  have oK := own_new w2 kArr 109
  have oR3 := oR2.alloc (.cells kArr 109)
  have hb3 := hb12.alloc hb12.size (.cells kArr 109)
  have hRK : w.heap.size ≠ w2.heap.size := Nat.ne_of_lt oR2.lt
  have hKb : w.heap.size ≤ w2.heap.size := hb12.size
  generalize w2.alloc (.cells kArr 109) = w3 at *
  generalize w2.heap.size = K at *
  clear oR2 hb12 hki hks
  go_upto_region 3 with (refine wpList_store_new (by rfl) 80 (.tmp 4) (.tmp 22) (by rfl) _ (stArr start) (by rfl) (by rfl) info36 (by rfl) (stArr_one _) (by rfl) ?_)
  have oH := own_new w3 (stArr start) 80
  have oK4 := oK.alloc (.cells (stArr start) 80)
  have oR4 := oR3.alloc (.cells (stArr start) 80)
  have hb4 := hb3.alloc hb3.size (.cells (stArr start) 80)
  have hRH : w.heap.size ≠ w3.heap.size := Nat.ne_of_lt oR3.lt
  have hKH : K ≠ w3.heap.size := Nat.ne_of_lt oK.lt
  have hHb : w.heap.size ≤ w3.heap.size := hb3.size
  generalize w3.alloc (.cells (stArr start) 80) = w4 at *
  generalize w3.heap.size = Hb at *
  have hH4 : Hb < w4.heap.size := oH.lt
  clear oK oR3 hb3
  go_wp2_with fail
  refine (padded_any a cap m _ (hm.below hb4) hcap hl).mono ?_
  rintro e w5 ⟨pa, pc, rfl, hV5, hb5, hfresh⟩
  obtain ⟨P, HP⟩ : ∃ P, Hid (P = m ++ padL m.length) := ⟨_, rfl⟩
  rw [← HP.out]
  rw [← HP.out] at hV5
  have hBase : Base w w.heap.size K pa pc P w5 := ⟨oR4.below hb5 oR4.lt, oK4.below hb5 oK4.lt, hV5, bel hb4 hb5⟩
  have oH5 := oH.below hb5 oH.lt
  have hP64 : P.length % 128 = 0 := by rw [HP.out, List.length_append]; exact padL_whole _
  have hPl : P.length ≤ 2000000 := by rw [HP.out, List.length_append, padL_length]; unfold noughts; omega
  clear oR4 oK4 hb4 hb5 hV5 oH
  have hP1 : 128 ≤ P.length := by
    have h1 : 0 < P.length := by rw [HP.out, List.length_append, padL_length]; omega
    omega
  obtain ⟨pb, po, rfl, hR5⟩ := hBase.txt.2.2.2.2 (by omega)
  have hbt : pb < w5.heap.size := range_lt hR5 (by omega)
  have bP : Bys P := hBase.txt.2.2.2.1
  have hpH : pb ≠ Hb := by have := hfresh _ rfl; simp only at this; omega
  clear hR5 hfresh hH4
  go_wp2_with fail
  go_loopw [6] (fun i wr => ∃ t : Nat, 128 * t ≤ P.length ∧ i = .int .i64 ((128 * t : Nat) : Int) ∧ Base w w.heap.size K (some ⟨pb, po, none⟩) pc P wr ∧ Own wr Hb (stArr (blocks (fun i => P.getD i 0) t)) 80) (fun i _ => P.length - (intOf i).toNat)
  case atStart => exact ⟨0, Nat.zero_le _, rfl, hBase, oH5⟩
  case round =>
    clear hBase oH5 hbt
    obtain ⟨t, ht, rfl, hBase, oH⟩ := hrel
    obtain ⟨A, HA⟩ : ∃ A, Hid (A = 128 * t) := ⟨_, rfl⟩
    have hA64 : A % 128 = 0 := by rw [HA.out]; omega
    rw [← HA.out] at ht ⊢
    by_cases hlt : A < P.length
    · have hAi : (A : Int) < (P.length : Int) := by omega
      have hA64' : A + 128 ≤ P.length := by omega
      have hAi2 : (A : Int) ≤ 2000000 := by omega
      obtain ⟨f, Hf⟩ : ∃ f : Nat → Int, Hid (f = fun i => P.getD (A + i) 0) := ⟨_, rfl⟩
      obtain ⟨st, Hst⟩ : ∃ st, Hid (st = blocks (fun i => P.getD i 0) t) := ⟨_, rfl⟩
      rw [← Hst.out] at oH
      go_upto_region 8 with fail
      have oW := own_new wr (wordsArr []) 109
      have hal := alloc_below wr (.cells (wordsArr []) 109)
      have oH2 := oH.alloc (.cells (wordsArr []) 109)
      have hB2 := hBase.below hal
      have hHW : Hb ≠ wr.heap.size := Nat.ne_of_lt oH.lt
      have hKW : K ≠ wr.heap.size := Nat.ne_of_lt hBase.tab.lt
      have hRW : w.heap.size ≠ wr.heap.size := Nat.ne_of_lt hBase.res.lt
      have hWb : w.heap.size ≤ wr.heap.size := hBase.bel.size
      have hpW : pb ≠ wr.heap.size := by
        obtain ⟨b, off, e, hr⟩ := hBase.txt.2.2.2.2 (by omega)
        simp only [Option.some.injEq, Addr.mk.injEq] at e
        have := range_lt hr (by omega)
        omega
      generalize wr.alloc (.cells (wordsArr []) 109) = w2 at *
      clear hal oH hBase
      generalize wr.heap.size = Wb at *
      go_wp2_with fail
      go_loopw [8] (fun i wx => ∃ k : Nat, k ≤ 80 ∧ i = .int .i64 (k : Int) ∧ Base w w.heap.size K (some ⟨pb, po, none⟩) pc P wx ∧ Own wx Hb (stArr st) 80 ∧ Own wx Wb (wordsArr (sched f k)) 109) (fun i _ => 80 - (intOf i).toNat)
      case atStart => exact ⟨0, Nat.zero_le _, rfl, hB2, oH2, oW⟩
      case round =>
        clear hB2 oH2 oW
        obtain ⟨k, hk, rfl, hB, oH, oW⟩ := hrel
        by_cases hk16 : k < 16
        · have hki : (k : Int) < 16 := by omega
          have hki2 : (k : Int) < 80 := by omega
          have hsl := sched_length f k
          have hsame := wordsArr_same (sched f k) (by omega)
          rw [hsl] at hsame
          rw [← hsame] at oW
          have HSL := show Hid _ from hsl
          clear hsame hsl
          go_wp2_with fail
          go_loopw [9] (fun i wx => ∃ j : Nat, j ≤ 8 ∧ i = .int .i64 (j : Int) ∧ Base w w.heap.size K (some ⟨pb, po, none⟩) pc P wx ∧ Own wx Hb (stArr st) 80 ∧ Own wx Wb ((wordsArr (sched f k)).setIfInBounds k (.int .u64 (acc (fun j => f (8 * k + j)) j))) 109) (fun i _ => 8 - (intOf i).toNat)
          case atStart => exact ⟨0, Nat.zero_le _, rfl, hB, oH, oW⟩
          case round =>
            clear hB oH oW
            obtain ⟨j, hj, rfl, hB, oH, oW⟩ := hrel
            have hsz : (wordsArr (sched f k)).size = 80 := wordsArr_size _ (by rw [HSL.out]; omega)
            have cW := oW.cell (i := k) (v := .int .u64 (acc (fun j => f (8 * k + j)) j)) (by rw [Array.getElem?_setIfInBounds_self, if_pos (by omega)])
            have fW := oW.frozen k
            by_cases hj4 : j < 8
            · have hji : (j : Int) < 8 := by omega
              obtain ⟨x, Hx⟩ : ∃ x, Hid (x = A + 8 * k + j) := ⟨_, rfl⟩
              have hxi : (A : Int) + 8 * (k : Int) + (j : Int) = (x : Int) := by rw [Hx.out]; omega
              have hxl : (x : Int) < (P.length : Int) := by rw [Hx.out]; omega
              have hx0 : (0 : Int) ≤ (x : Int) := by omega
              have hfx : P.getD x 0 = f (8 * k + j) := by rw [Hf.out, Hx.out, Nat.add_assoc]
              have cP := hB.byte x (by omega)
              rw [hfx] at cP
              have hbx : 0 ≤ f (8 * k + j) ∧ f (8 * k + j) < 256 := by
                rw [← hfx]
                have hxP : x < P.length := by omega
                have e : P.getD x 0 = P[x] := by simp [List.getD, hxP]
                rw [e]; exact bP _ (List.getElem_mem hxP)
              clear hfx
              have Hacc : Hid (acc (fun j => f (8 * k + j)) (j + 1) = bits .or .u64 (IntKind.u64.wrap (acc (fun j => f (8 * k + j)) j * 256)) (f (8 * k + j))) := rfl
              generalize f (8 * k + j) = y at *
              generalize acc (fun j => f (8 * k + j)) j = ac at *
              go_wp2_with fail
              go_region
              go_wp2_with fail
              go_roundw
              case rel =>
                have hg := grown_setCell wr Wb k (.int .u64 (bits .or .u64 (IntKind.u64.wrap (ac * 256)) y))
                refine ⟨j + 1, by omega, by go_num, ?_, ?_, ?_⟩
                · exact (hB.set hg hRW hKW hpW hWb).below ((Below.refl _ _).drew)
                · have h3 := oH.grown hg hHW
                  exact h3
                · have h2 := oW.setCell k (.int .u64 (bits .or .u64 (IntKind.u64.wrap (ac * 256)) y))
                  rw [Array.setIfInBounds_setIfInBounds] at h2
                  rw [Hacc.out]; exact h2
              case measure => simp [intOf]; omega
            · have hj4' : j = 8 := by omega
              subst hj4'
              have hw4 : (wordsArr (sched f k)).setIfInBounds k (.int .u64 (acc (fun j => f (8 * k + j)) 8)) = wordsArr (sched f (k + 1)) := by
                exact (sched_first f k hk16).symm
              rw [hw4] at oW
              clear hw4 cW fW
              go_wp2_with fail
              refine ⟨⟨k + 1, by omega, by go_num, hB, oH, oW⟩, by simp [intOf]; omega⟩
        · by_cases hk64 : k < 80
          · have hki : ¬ (k : Int) < 16 := by omega
            have hki2 : (k : Int) < 80 := by omega
            obtain ⟨i15, v15, w15, g15, p15, q15, H15⟩ := at_back f k 15 15 rfl hk (by omega) (by decide)
            obtain ⟨i2, v2, e2, g2, p2, q2, H2⟩ := at_back f k 2 2 rfl hk (by omega) (by decide)
            obtain ⟨i16, v16, w16, g16, p16, q16, H16, n16⟩ := at_back' f k 16 16 rfl hk (by omega) (by decide)
            obtain ⟨i7, v7, w7, g7, p7, q7, H7, n7⟩ := at_back' f k 7 7 rfl hk (by omega) (by decide)
            have hg0 := wordsArr_new (sched f k) (by rw [sched_length]; omega)
            rw [sched_length] at hg0
            have c15 := oW.cell g15
            have c2 := oW.cell g2
            have c16 := oW.cell g16
            have c7 := oW.cell g7
            have c0 := oW.cell hg0
            have f0 := oW.frozen k
            have na16 : (⟨Wb, k, none⟩ : Addr) ≠ ⟨Wb, i16, none⟩ := fun e => n16 (Addr.mk.inj e).2.1
            have na7 : (⟨Wb, k, none⟩ : Addr) ≠ ⟨Wb, i7, none⟩ := fun e => n7 (Addr.mk.inj e).2.1
            clear g15 g2 g16 g7 hg0 n16 n7
            go_wp2_with fail
            go_quiet (fail)
            go_wp2_with fail
            go_region_held3 (fun w' => w'.cell? ⟨Wb, i16, none⟩ = some (.int .u64 v16) ∧ w'.cell? ⟨Wb, i7, none⟩ = some (.int .u64 v7)) ((simp only [World.cell?_setCell_other _ _ _ _ na16, World.cell?_setCell_other _ _ _ _ na7, World.cell?_drewN, World.cell?_drew]; exact ⟨c16, c7⟩))
              (first | (go_at_call 82; refine (rot64_any _ _ _ (by decide) (by decide)).mono ?_; rintro e w' ⟨rfl, rfl⟩))
            go_wp2_with fail
            go_roundw
            case rel =>
              have hsum := sum_u64 v16 v7 (sig0 v15) (sig1 v2)
              have hg := grown_setCell (wr.drewN (nq + 1)) Wb k (.int .u64 (IntKind.u64.wrap (IntKind.u64.wrap (IntKind.u64.wrap (v16 + v7) + sig0 v15) + sig1 v2)))
              refine ⟨k + 1, by omega, by go_num, ?_, ?_, ?_⟩
              · exact (hB.below (below_drewN (Below.refl _ _) _)).set hg hRW hKW hpW hWb
              · exact (oH.drewN _).grown hg hHW
              · have h2 := (oW.drewN (nq + 1)).setCell k (.int .u64 (IntKind.u64.wrap (IntKind.u64.wrap (IntKind.u64.wrap (v16 + v7) + sig0 v15) + sig1 v2)))
                rw [hsum, H16.out, H15.out, H7.out, H2.out] at h2
                rw [sched_later f k (by omega) hk64]
                rw [← H16.out, ← H15.out, ← H7.out, ← H2.out, ← hsum] at h2 ⊢
                exact h2
            case measure => simp [intOf]; omega
          · have hki : ¬ (k : Int) < 80 := by omega
            have Hk : Hid (k = 80) := show k = 80 by omega
            have hws : ∀ i, i < 80 → (wordsArr (sched f k))[i]? = some (.int .u64 ((sched f 80).getD i 0)) := fun i hi => by rw [Hk.out]; exact wordsArr_old _ _ (by rw [sched_length]; exact hi)
            obtain ⟨wf, Hwf⟩ : ∃ wf : Nat → Int, Hid (wf = fun i => (sched f 80).getD i 0) := ⟨_, rfl⟩
            have hws : ∀ i, i < 80 → (wordsArr (sched f k))[i]? = some (.int .u64 (wf i)) := fun i hi => by rw [Hwf.out]; exact hws i hi
            generalize wordsArr (sched f k) = ws at *
            go_upto_region 18 with fail
            clear hki hk64 hk16
            go_upto_region 19 with (first | refine wpList_load_own (by rfl) 80 (.tmp 4) (by rfl) Hb (by rfl) (stArr st) _ oH Tryz.underlying80 (by rfl) info36 ?_ | refine wpList_store_new (by rfl) 80 (.tmp 12) (.tmp 95) (by rfl) _ (stArr st) (by rfl) (by rfl) info36 (by rfl) (stArr_one _) (by rfl) ?_)
            have oV := own_new wr (stArr st) 80
            have hal := alloc_below wr (.cells (stArr st) 80)
            have oH3 := oH.alloc (.cells (stArr st) 80)
            have oW3 := oW.alloc (.cells (stArr st) 80)
            have hB3 := hB.below hal
            have hHV : Hb ≠ wr.heap.size := Nat.ne_of_lt oH.lt
            have hKV : K ≠ wr.heap.size := Nat.ne_of_lt hB.tab.lt
            have hRV : w.heap.size ≠ wr.heap.size := Nat.ne_of_lt hB.res.lt
            have hWV : Wb ≠ wr.heap.size := Nat.ne_of_lt oW.lt
            have hVb : w.heap.size ≤ wr.heap.size := hB.bel.size
            have hpV : pb ≠ wr.heap.size := by
              obtain ⟨b, off, e, hr⟩ := hB.txt.2.2.2.2 (by omega)
              simp only [Option.some.injEq, Addr.mk.injEq] at e
              have := range_lt hr (by omega)
              omega
            generalize wr.alloc (.cells (stArr st) 80) = w3 at *
            generalize wr.heap.size = Vb at *
            clear hal oH oW hB
            go_wp2_with fail
            go_loopw [13] (fun i wx => ∃ k : Nat, k ≤ 80 ∧ i = .int .i64 (k : Int) ∧ Base w w.heap.size K (some ⟨pb, po, none⟩) pc P wx ∧ Own wx Hb (stArr st) 80 ∧ Own wx Wb ws 109 ∧ Own wx Vb (stArr (rnds wf st k)) 80) (fun i _ => 80 - (intOf i).toNat)
            case atStart => exact ⟨0, Nat.zero_le _, rfl, hB3, oH3, oW3, oV⟩
            case round =>
              clear hB3 oH3 oW3 oV Hk
              obtain ⟨k, hk, rfl, hB, oH, oW, oV⟩ := hrel
              by_cases hk64 : k < 80
              · have hki : (k : Int) < 80 := by omega
                have hk0 : (0 : Int) ≤ (k : Int) := by omega
                have cW := oW.cell (hws k hk64)
                have cK := hB.tab.cell (kArr_at k hk64)
                obtain ⟨r, Hr⟩ : ∃ r, Hid (r = rnds wf st k) := ⟨_, rfl⟩
                have Hst2 : Hid (rnds wf st (k + 1) = rnd (kays.getD k 0) (wf k) r) := by show _ = _; rw [Hr.out]; rfl
                rw [← Hr.out] at oV
                generalize kays.getD k 0 = kk at *
                generalize wf k = wk at *
                obtain ⟨v0, v1, v2, v3, v4, v5, v6, v7⟩ := st_facts oV
                go_wp2_with fail
                go_quiet (fail)
                have hB := hB.below (below_drewN (Below.refl _ _) nq)
                have oH := oH.drewN nq
                have oW := oW.drewN nq
                have oV := oV.drewN nq
                have cW : (wr.drewN nq).cell? ⟨Wb, k, none⟩ = some (.int .u64 wk) := cW
                have cK : (wr.drewN nq).cell? ⟨K, k, none⟩ = some (.int .u64 kk) := cK
                clear v0 v1 v2 v3 v4 v5 v6 v7
                generalize wr.drewN nq = wq at hB oH oW oV cW cK ⊢
                obtain ⟨v0, v1, v2, v3, v4, v5, v6, v7⟩ := st_facts oV
                go_wp2_with fail
                go_quiet ((go_at_call 82; exact Calls.quiet_of_same (rot64_any _ _ _ (by decide) (by decide))))
                have hB := hB.below (below_drewN (Below.refl _ _) nq)
                have oH := oH.drewN nq
                have oW := oW.drewN nq
                have oV := oV.drewN nq
                clear v0 v1 v2 v3 v4 v5 v6 v7 cW cK
                generalize wq.drewN nq = wq2 at hB oH oW oV ⊢
                obtain ⟨v0, v1, v2, v3, v4, v5, v6, v7⟩ := st_facts oV
                go_wp2_with fail
                go_quiet ((go_at_call 82; exact Calls.quiet_of_same (rot64_any _ _ _ (by decide) (by decide))))
                have hB := hB.below (below_drewN (Below.refl _ _) nq)
                have oH := oH.drewN nq
                have oW := oW.drewN nq
                have oV := oV.drewN nq
                clear v0 v1 v2 v3 v4 v5 v6 v7
                generalize wq2.drewN nq = wq3 at hB oH oW oV ⊢
                obtain ⟨v0, v1, v2, v3, v4, v5, v6, v7⟩ := st_facts oV
                go_upto_region 25 with fail
                obtain ⟨T1, H1⟩ : ∃ T1, Hid (T1 = tone kk wk r) := ⟨_, rfl⟩
                obtain ⟨T2, H2⟩ : ∃ T2, Hid (T2 = ttwo r) := ⟨_, rfl⟩
                rw [tone_is kk wk r, ttwo_is r, ← H1.out, ← H2.out]
                have Hrnd : Hid (stArr (rnd kk wk r) = #[.int .u64 (IntKind.u64.wrap (T1 + T2)), .int .u64 r.a, .int .u64 r.b, .int .u64 r.c, .int .u64 (IntKind.u64.wrap (r.d + T1)), .int .u64 r.e, .int .u64 r.f, .int .u64 r.g]) := by
                  show _ = _
                  rw [H1.out, H2.out]; rfl
                generalize r.a = ra at *
                generalize r.b = rb at *
                generalize r.c = rc at *
                generalize r.d = rd at *
                generalize r.e = re at *
                generalize r.f = rf at *
                generalize r.g = rg at *
                have HrL : Hid ((stArr (rnd kk wk r)).toList = [.int .u64 (IntKind.u64.wrap (T1 + T2)), .int .u64 ra, .int .u64 rb, .int .u64 rc, .int .u64 (IntKind.u64.wrap (rd + T1)), .int .u64 re, .int .u64 rf, .int .u64 rg]) := by
                  show _ = _
                  rw [Hrnd.out]
                obtain ⟨z0, z1, z2, z3, z4, z5, z6, z7⟩ := st_frozen oV
                go_wp2_with fail
                rw [eight_cells, ← HrL.out]
                have hg := grown_setCells Vb (stArr (rnd kk wk r)).toList 0 wq3
                refine ⟨⟨k + 1, by omega, by go_num, hB.set hg hRV hKV hpV hVb, oH.grown hg hHV, oW.grown hg hWV, ?_⟩, by simp [intOf]; omega⟩
                rw [Hst2.out]; exact own_setCells oV rfl
              · have hki : ¬ (k : Int) < 80 := by omega
                have hk' : k = 80 := by omega
                obtain ⟨r, Hr⟩ : ∃ r, Hid (r = rnds wf st 80) := ⟨_, rfl⟩
                rw [hk', ← Hr.out] at oV
                clear hk'
                go_wp2_with fail
                clear hki hk64 hk
                go_loopw [18] (fun i wx => ∃ k : Nat, k ≤ 8 ∧ i = .int .i64 (k : Int) ∧ Base w w.heap.size K (some ⟨pb, po, none⟩) pc P wx ∧ Own wx Hb ((addTo st r k).map (Value.int .u64)).toArray 80 ∧ Own wx Vb (stArr r) 80) (fun i _ => 8 - (intOf i).toNat)
                case atStart => exact ⟨0, Nat.zero_le _, rfl, hB, oH, oV⟩
                case round =>
                  clear hB oH oV oW
                  obtain ⟨k, hk, rfl, hB, oH, oV⟩ := hrel
                  by_cases hk8 : k < 8
                  · have hki : (k : Int) < 8 := by omega
                    have hk0 : (0 : Int) ≤ (k : Int) := by omega
                    have cH := oH.cell (addTo_at st r k hk8)
                    have cV := oV.cell (stArr_at r k hk8)
                    have fH := oH.frozen k
                    have Hs := show Hid _ from addTo_step st r k hk8
                    generalize (stWords st).getD k 0 = x at *
                    generalize (stWords r).getD k 0 = y at *
                    go_wp2_with fail
                    go_region
                    go_wp2_with fail
                    go_roundw
                    case rel =>
                      have hg := grown_setCell wr Hb k (.int .u64 (IntKind.u64.wrap (x + y)))
                      refine ⟨k + 1, by omega, by go_num, ?_, ?_, ?_⟩
                      · exact (hB.set hg hRH hKH hpH hHb).below ((Below.refl _ _).drew)
                      · rw [← Hs.out]
                        have h3 := oH.setCell k (.int .u64 (IntKind.u64.wrap (x + y)))
                        exact h3
                      · have h3 := oV.grown hg (Ne.symm hHV)
                        exact h3
                    case measure => simp [intOf]; omega
                  · have hki : ¬ (k : Int) < 8 := by omega
                    have hk' : k = 8 := by omega
                    rw [hk', addTo_eight] at oH
                    clear hk'
                    go_wp2_with fail
                    refine ⟨⟨t + 1, by have := HA.out; omega, ?_, hB, ?_⟩, ?_⟩
                    · have := HA.out; congr 1; omega
                    · rw [blocks, ← Hst.out]
                      have e : mixS st f = addSt st r := by rw [mixS, Hr.out, Hwf.out]
                      rw [show (fun i => P.getD (128 * t + i) 0) = f from by rw [Hf.out, HA.out], e]
                      exact oH
                    · simp [intOf]; omega
    · have hAi : ¬ (A : Int) < (P.length : Int) := by omega
      have Hend : Hid (blocks (fun i => P.getD i 0) t = endSt m) := by
        show _ = _
        have e : t = P.length / 128 := by have := HA.out; omega
        rw [endSt, ← HP.out, stOf, e]
      rw [Hend.out] at oH
      have Hdig : Hid (dig m = outArr (endSt m) 64) := by show _ = _; rw [outArr_full]; rfl
      clear Hend
      generalize endSt m = st at *
      go_upto_region 30 with fail
      go_upto_region 31 with fail
      have oO := own_new wr z64 24
      have hal := alloc_below wr (.cells z64 24)
      have oH2 := oH.alloc (.cells z64 24)
      have hB2 := hBase.below hal
      have hHO : Hb ≠ wr.heap.size := Nat.ne_of_lt oH.lt
      have hRO : w.heap.size ≠ wr.heap.size := Nat.ne_of_lt hBase.res.lt
      have hOb : w.heap.size ≤ wr.heap.size := hBase.bel.size
      generalize wr.alloc (.cells z64 24) = w2 at *
      have oR2 := hB2.res
      have hb2 := hB2.bel
      clear hal oH hBase hB2
      generalize wr.heap.size = O at *
      rw [← outArr_zero st] at oO
      go_wp2_with fail
      go_loopw [20] (fun i wx => ∃ k : Nat, k ≤ 64 ∧ i = .int .i64 (k : Int) ∧ Own wx w.heap.size z64 24 ∧ Below w.heap.size w wx ∧ Own wx Hb (stArr st) 80 ∧ Own wx O (outArr st k) 24) (fun i _ => 64 - (intOf i).toNat)
      case atStart => exact ⟨0, Nat.zero_le _, rfl, oR2, hb2, oH2, oO⟩
      case round =>
        clear oR2 hb2 oH2 oO
        obtain ⟨k, hk, rfl, oR, hb, oH, oO⟩ := hrel
        by_cases hk32 : k < 64
        · have hki : (k : Int) < 64 := by omega
          have hk0 : (0 : Int) ≤ (k : Int) := by omega
          have hk4 : (k : Int) / 8 < 8 := by omega
          have hk4' : (0 : Int) ≤ (k : Int) / 8 := by omega
          have cH := oH.cell (stArr_at st (k / 8) (by omega))
          have cO := oO.cell (outArr_at st k hk32)
          have fO := oO.frozen k
          have Hby := show Hid _ from sumBytes_at st (k / 8) (k % 8) (by omega) (by omega)
          generalize (stWords st).getD (k / 8) 0 = x at *
          go_wp2_with fail
          have hby := Hby.out
          rw [show 8 * (k / 8) + k % 8 = k from by omega] at hby
          have hg := grown_setCell wr O k (.int .u8 (x / 2 ^ (56 - 8 * (k % 8)) % 256))
          refine ⟨⟨k + 1, by omega, by go_num, oR.grown hg hRO, belg hb hg hOb, oH.grown hg hHO, ?_⟩, by simp [intOf]; omega⟩
          rw [← outArr_step st k _ hk32 hby]
          exact oO.setCell k _
        · have hki : ¬ (k : Int) < 64 := by omega
          have hk' : k = 64 := by omega
          rw [hk', ← Hdig.out] at oO
          clear hk'
          go_upto_region 35 with fail
          generalize hD : dig m = D at *
          have hDi : (Tryz.prog.info? 24).map (·.size) = some D.size := by rw [← hD]; exact dig_info m
          have hD1 : D.all (·.oneCell') = true := by rw [← hD]; exact dig_one m
          have hDs : D.size = 64 := by rw [← hD]; exact dig_size m
          have HD := show Hid _ from hD
          clear hD
          have hfit : 0 + D.size ≤ z64.size := by rw [hDs, z64_size]; decide
          have HDs := show Hid _ from hDs
          clear hDs
          go_wp2_with (first | refine wpList_load_own (by rfl) 24 (.tmp 19) (by rfl) O (by rfl) D _ oO Tryz.underlying24 (by rfl) hDi ?_ | refine wpList_store_own (by rfl) 24 (.tmp 2) (.tmp 207) (by rfl) w.heap.size 0 D (by rfl) (by rfl) oR hfit hDi hD1 (by rfl) ?_)
          refine bodyPost_ret (results_own Tryz.results45 _ _ w.heap.size D _ rfl (own_setCells oR (by rw [HDs.out, z64_size])) Tryz.underlying24 rfl hDi) rfl ⟨by rw [HD.out], ?_⟩
          exact Below.setCells _ _ _ _ (Nat.le_refl _) hb
end Go.Proofs.YtgibllaifnnfkaaGreatDoor.H
namespace Go.Proofs.YtgibllaifnnfkaaGreatDoor
open Go Go.RowKit
theorem pmodL64 {a c bS cap : Nat} {w : World} {t : TypeId} (ho : Own w bS (B64 (bdig a)) t) (ha : a < R512) (hc : a % LL = c) : Calls Tryz.prog 46 #[.slice (some ⟨bS, 0, none⟩) 64 cap] w fun x w' => x = .returned (.agg (B32 (bdig c))) ∧ Below w.heap.size w w' := by
  have h := modLs_any (bdig a) 64 bS cap (by decide) (fun i _ => bdig_lt a i) w ho.lt (fun i hi => ho.cell (B64_at _ i hi))
  rw [vb64 ha, hc] at h
  exact h
theorem pjoin {a : Option Addr} {len cap : Nat} {ms : List (List Int)} {l : List Int} (hl : ms.flatten = l) (hn : l.length ≤ 1000000) (w : World) (hR : H.RowsV w a len cap ms) :
    Calls Tryz.prog 23 #[.slice a len cap] w fun e w' => ∃ a' cap', e = .returned (.slice a' l.length cap') ∧ H.BytesV w' a' l.length cap' l ∧ (a' = none → cap' = 0) ∧ Below w.heap.size w w' := by
  subst hl; exact H.join_any a len cap ms w hR hn
theorem psum512 {a : Option Addr} {cap z : Nat} {l : List Int} (hz : dn l = z) (hn : l.length ≤ 1000000) (w : World) (hm : Txt w a cap l) :
    Calls Tryz.prog 45 #[.slice a l.length cap] w fun e w' => e = .returned (.agg (B64 (bdig z))) ∧ Below w.heap.size w w' := by
  subst hz; rw [← dig_dn]; exact H.ref_any a cap l w hm.1 hm.2 hn
def factChal (z bA bB : Nat) (ta : Option Addr) (tc : Nat) (m l : List Int) : Nat → Value → Prop
  | 0, vq => vq = .slice (some ⟨bA, 0, none⟩) 32 32
  | 1, vq => vq = .slice (some ⟨bB, 0, none⟩) 32 32
  | 2, vq => vq = .slice ta m.length tc
  | 5, vq => vq = .agg (B64 (bdig z))
  | 6, vq => ∃ g, vq = .pointer (some ⟨g, 0, none⟩)
  | 3, vq => ∃ aq, vq = .slice aq 3 3
  | 4, vq => ∃ aq cq, vq = .slice aq l.length cq
  | _, _ => True
set_option maxRecDepth 100000 in
set_option maxHeartbeats 1000000 in
theorem challenge_at {p q k : Nat} {ta : Option Addr} {tc : Nat} {m : List Int} (Hk : Hid (dn (by32 p ++ (by32 q ++ m)) % LL = k)) (hl : m.length ≤ 1000) (w : World) (hm : Txt w ta tc m) : Calls Tryz.prog 38 #[.agg (B32 (bdig p)), .agg (B32 (bdig q)), .slice ta m.length tc] w fun x w' => x = .returned (.agg (B32 (bdig k))) ∧ Below w.heap.size w w' := by
  have hz := (zero_of_info zeroB32).1
  have hz64 := (zero_of_info zeroB64).1
  obtain ⟨l, Hl⟩ : ∃ l, Hid (by32 p ++ (by32 q ++ m) = l) := ⟨_, rfl⟩
  obtain ⟨z, Hz⟩ : ∃ z, Hid (dn l = z) := ⟨_, rfl⟩
  have hzl : Hid (z < R512) := by show _ < _; rw [← Hz.out]; exact dn_lt _
  have hzk : Hid (z % LL = k) := by show _ = _; rw [← Hz.out, ← Hl.out]; exact Hk.out
  have hfl : Hid ([by32 p, by32 q, m].flatten = l) := by show _ = _; rw [← Hl.out]; simp
  have hln : Hid (l.length ≤ 1000000) := by show _ ≤ _; rw [← Hl.out, List.length_append, List.length_append, by32_length, by32_length]; omega
  go_enter Tryz.func38, Tryz.ntmps38
  go_upto_region 1 with fail
  have hK := (((Kp.nil w).alloc (B32 (bdig p)) 22).alloc (B32 (bdig q)) 22).alloc (B32 fun _ => 0) 22
  rw [World.size_alloc, World.size_alloc] at hK
  generalize ((w.alloc (.cells (B32 (bdig p)) 22)).alloc (.cells (B32 (bdig q)) 22)).alloc (.cells (B32 fun _ => 0) 22) = W at *
  obtain ⟨bA, HbA⟩ : ∃ b, Hid (w.heap.size = b) := ⟨_, rfl⟩
  obtain ⟨bB, HbB⟩ : ∃ b, Hid (bA + 1 = b) := ⟨_, rfl⟩
  obtain ⟨bR, HbR⟩ : ∃ b, Hid (bB + 1 = b) := ⟨_, rfl⟩
  have le_bA : Hid (w.heap.size ≤ bA) := by show _ ≤ _; have := HbA.out; omega
  have le_bB : Hid (w.heap.size ≤ bB) := by show _ ≤ _; have := HbA.out; have := HbB.out; omega
  have le_bR : Hid (w.heap.size ≤ bR) := by show _ ≤ _; have := HbA.out; have := HbB.out; have := HbR.out; omega
  have ne_bA_bB : Hid (bA ≠ bB) := by show _ ≠ _; have := HbB.out; omega
  have ne_bA_bR : Hid (bA ≠ bR) := by show _ ≠ _; have := HbB.out; have := HbR.out; omega
  have ne_bB_bR : Hid (bB ≠ bR) := by show _ ≠ _; have := HbR.out; omega
  rw [HbA.out, HbB.out, HbR.out] at hK ⊢
  refine wp_region_told 16 (by kernel_rfl) (by kernel_rfl) (by rfl) (factChal z bA bB ta tc m l) (fun L vs wq => MkN 1 [(bR, B32 fun _ => 0, 22), (bB, B32 (bdig q), 22), (bA, B32 (bdig p), 22)] w (fun _ => B64 fun _ => 0) (fun _ => B64 (bdig z)) (fun _ => 24) (fun i => L (6 + i)) (fun i => L (7 + i)) (fun i => vs (6 + i)) wq ∧ (L 3 = true → L 4 = false → ∃ aq, vs 3 = .slice aq 3 3 ∧ H.RowsV wq aq 3 3 [by32 p, by32 q, m]) ∧ (L 4 = true → L 5 = false → ∃ aq cq, vs 4 = .slice aq l.length cq ∧ Txt wq aq cq l)) (fun _ => ⟨MkN.drew hK (fun _ _ => rfl), (fun h => by cases h), (fun h => by cases h)⟩) ?_ ?_
  · intro L vs ac wc i o hF hLi ho hd K hK
    rcases i with _ | _ | _ | _ | _ | _ | _ | _ | i
    · have ho' := ho
      obtain rfl := Option.some.inj ho
      have f3 : ac.tmps.getD 3 undef = .pointer (some ⟨bA, 0, none⟩) := slott hF 0 hLi 3 (by kernel_rfl)
      refine step_do ho' (wanted_free rfl) ?_
      unfold Oper.wp
      go_simp
      exact hK _ _ (.inr rfl) ⟨(hF.j.1.congr (fun i hi => if_off (by decide) hi) (fun i hi => if_off (by decide) hi) (fun i hi => if_off (by decide) hi)), hF.j.2.1, hF.j.2.2⟩
    · have ho' := ho
      obtain rfl := Option.some.inj ho
      have f4 : ac.tmps.getD 4 undef = .pointer (some ⟨bB, 0, none⟩) := slott hF 1 hLi 4 (by kernel_rfl)
      refine step_do ho' (wanted_free rfl) ?_
      unfold Oper.wp
      go_simp
      exact hK _ _ (.inr rfl) ⟨(hF.j.1.congr (fun i hi => if_off (by decide) hi) (fun i hi => if_off (by decide) hi) (fun i hi => if_off (by decide) hi)), hF.j.2.1, hF.j.2.2⟩
    · have ho' := ho
      obtain rfl := Option.some.inj ho
      have f2 : ac.tmps.getD 2 undef = .slice ta m.length tc := slott hF 2 hLi 2 (by kernel_rfl)
      refine step_do ho' (wanted_free rfl) ?_
      unfold Oper.wp
      go_simp
      exact hK _ _ (.inr rfl) ⟨(hF.j.1.congr (fun i hi => if_off (by decide) hi) (fun i hi => if_off (by decide) hi) (fun i hi => if_off (by decide) hi)), hF.j.2.1, hF.j.2.2⟩
    · have ho' := ho
      obtain rfl := Option.some.inj ho
      have f8 : ac.tmps.getD 8 undef = .slice (some ⟨bA, 0, none⟩) 32 32 := (factt hF hd 0 rfl rfl (by kernel_rfl)).1.trans (factt hF hd 0 rfl rfl (by kernel_rfl)).2
      have f9 : ac.tmps.getD 9 undef = .slice (some ⟨bB, 0, none⟩) 32 32 := (factt hF hd 1 rfl rfl (by kernel_rfl)).1.trans (factt hF hd 1 rfl rfl (by kernel_rfl)).2
      have f10 : ac.tmps.getD 10 undef = .slice ta m.length tc := (factt hF hd 2 rfl rfl (by kernel_rfl)).1.trans (factt hF hd 2 rfl rfl (by kernel_rfl)).2
      refine step_do ho' (wanted_free rfl) ?_
      have q8 := getq f8
      have q9 := getq f9
      have q10 := getq f10
      unfold Oper.wp
      go_simp
      exact hK _ _ (.inr ⟨_, rfl⟩) ⟨((hF.j.1.congr (fun i hi => if_off (by decide) hi) (fun i hi => if_off (by decide) hi) (fun i hi => if_off (by decide) hi))).below (alloc_below _ _), (fun _ _ => ⟨_, rfl, rows3 (bytes_own (hF.j.1.1.at bA (B32 (bdig p)) 22 (.tail _ (.tail _ (.head _))))) (fun h => by cases h) (bytes_own (hF.j.1.1.at bB (B32 (bdig q)) 22 (.tail _ (.head _)))) (fun h => by cases h) ((hm.below hF.j.1.1.2).1) hm.2⟩), (fun h1 h2 => txt_bel (hF.j.2.2 h1 h2) (alloc_below _ _))⟩
    · have ho' := ho
      obtain rfl := Option.some.inj ho
      refine step_do ho' (wanted_free rfl) ?_
      obtain ⟨aq, eq, hq⟩ := hF.j.2.1 (dep hd 3 (by kernel_rfl)) hLi
      have f11 := (factt hF hd 3 rfl rfl (by kernel_rfl)).1
      rw [eq] at f11
      unfold Oper.wp
      go_simp
      refine (pjoin hfl.out hln.out _ hq).mono ?_
      rintro e w' ⟨aj, cj, rfl, hv, hn, hB⟩
      exact hK _ _ (.inr ⟨_, _, rfl⟩) ⟨((hF.j.1.congr (fun i hi => if_off (by decide) hi) (fun i hi => if_off (by decide) hi) (fun i hi => if_off (by decide) hi))).below hB, (fun _ h => by cases h), (fun _ _ => ⟨_, _, rfl, hv, hn⟩)⟩
    · have ho' := ho
      obtain rfl := Option.some.inj ho
      refine step_do ho' (wanted_free rfl) ?_
      obtain ⟨aq, cq, eq, hq⟩ := hF.j.2.2 (dep hd 4 (by kernel_rfl)) hLi
      have f12 := (factt hF hd 4 rfl rfl (by kernel_rfl)).1
      rw [eq] at f12
      unfold Oper.wp
      go_simp
      refine (psum512 Hz.out hln.out _ hq).mono ?_
      rintro e w' ⟨rfl, hB⟩
      exact hK _ _ (.inr rfl) ⟨((hF.j.1.congr (fun i hi => if_off (by decide) hi) (fun i hi => if_off (by decide) hi) (fun i hi => if_off (by decide) hi))).below hB, (fun h1 h2 => rows_bel (hF.j.2.1 h1 h2) hB), (fun _ h => by cases h)⟩
    · have ho' := ho
      obtain rfl := Option.some.inj ho
      refine step_do ho' (wanted_free rfl) ?_
      have hs := notyett hF 6 hLi 7 rfl (by kernel_rfl)
      unfold Oper.wp
      go_simp
      exact hK _ _ (.inr ⟨_, rfl⟩) ⟨hF.j.1.alloc 0 (fun i _ hne => if_oth (k := 0) rfl hne) (fun i hi => if_off (by decide) hi) (fun i _ hne => if_oth (k := 0) rfl hne) rfl hs, (fun h1 h2 => rows_bel (hF.j.2.1 h1 h2) (alloc_below _ _)), (fun h1 h2 => txt_bel (hF.j.2.2 h1 h2) (alloc_below _ _))⟩
    · have ho' := ho
      obtain rfl := Option.some.inj ho
      have f13 : ac.tmps.getD 13 undef = .agg (B64 (bdig z)) := (factt hF hd 5 rfl rfl (by kernel_rfl)).1.trans (factt hF hd 5 rfl rfl (by kernel_rfl)).2
      refine step_do ho' (wanted_free rfl) ?_
      have hq5 := dep hd 5 (by kernel_rfl)
      have hq4 := dept hF 5 rfl hq5 4 (by kernel_rfl)
      obtain ⟨fg, gq, hg⟩ := factt hF hd 6 rfl rfl (by kernel_rfl)
      have hm_ := dep hd 6 (by kernel_rfl)
      have hj := hF.j.1
      rw [hg] at fg
      have hj2 := hj.at (k := 0) (by decide) hm_ hg hLi
      refine wp_store_own 24 (.tmp 7) (.tmp 13) rfl gq (B64 (bdig z)) fg f13 hj2.2.2 (B64_sizes _ _) (B64_info _) (B64_one _) rfl ?_
      exact hK undef _ (.inl rfl) ⟨hj.storeA (k := 0) (A := B64 (bdig z)) rfl (by decide) hm_ hg hLi (B64_sizes _ _) (fun i hi => if_off (by decide) hi) (fun i _ hne => if_oth (k := 0) rfl hne) (fun i hi => if_off (by decide) hi) rfl, (fun _ h => by have h : L 4 = false := h; rw [hq4] at h; cases h), (fun _ h => by have h : L 5 = false := h; rw [hq5] at h; cases h)⟩
    · cases ho
  intro L vs V1 hL hJ hf
  have hJ := hJ.1
  obtain ⟨aq3, eb3⟩ := hf 3 _ _ rfl rfl
  obtain ⟨aq4, cq, eb4⟩ := hf 4 _ _ rfl rfl
  obtain ⟨g2, hgg2⟩ := hf 6 _ _ rfl rfl
  obtain ⟨le0, apg2, owng2⟩ := hJ.gotA (k := 0) (A := B64 (bdig z)) rfl (by decide) (hL 6 (by decide)) hgg2 (hL 7 (by decide))
  have le_g2 := show Hid _ from le0
  clear le0
  have ne_bR_g2 : Hid (bR ≠ g2) := apg2 (bR, B32 fun _ => 0, 22) (.head _)
  have ne_bB_g2 : Hid (bB ≠ g2) := apg2 (bB, B32 (bdig q), 22) (.tail _ (.head _))
  have ne_bA_g2 : Hid (bA ≠ g2) := apg2 (bA, B32 (bdig p), 22) (.tail _ (.tail _ (.head _)))
  have hK : Kp [(g2, B64 (bdig z), 24), (bR, B32 fun _ => 0, 22), (bB, B32 (bdig q), 22), (bA, B32 (bdig p), 22)] w V1 := (hJ.1.cons owng2)
  have e0 : vs 0 = _ := hf 0 _ _ rfl rfl
  have e1 : vs 1 = _ := hf 1 _ _ rfl rfl
  have e2 : vs 2 = _ := hf 2 _ _ rfl rfl
  have e5 : vs 5 = _ := hf 5 _ _ rfl rfl
  simp only [putAll, Nat.zero_add, Nat.reduceAdd, e0, e1, e2, e5, eb3, eb4, hgg2, Act.put, List.setIfInBounds_toArray, List.set_cons_succ, List.set_cons_zero]
  clear hJ hf hL e0 e1 e2 e5 eb3 eb4 hgg2 apg2 owng2
  go_wp2_with fail
  refine (pmodL64 (hK.at g2 (B64 (bdig z)) 24 (.head _)) hzl.out hzk.out).mono ?_
  rintro e V3 ⟨rfl, bw⟩
  have hK := hK.below bw
  clear bw
  go_wp2_with (refine wpList_store_own (op := { dst := none, op := _, type := _, pos := _, after := _, guard := _ }) rfl 22 (.tmp 6) (.tmp 15) rfl bR 0 (B32 (bdig k)) (by rfl) (by rfl) (hK.at bR (B32 fun _ => 0) 22 (.tail _ (.head _))) (B32_le _ _) (B32_info _) (B32_one _) (by rfl) ?_)
  exact bodyPost_ret (results_own Tryz.results38 _ _ bR (B32 (bdig k)) _ (by rfl) (own_setCells (hK.at bR (B32 fun _ => 0) 22 (.tail _ (.head _))) (B32_sizes _ _)) Tryz.underlying22 rfl (B32_info _)) rfl ⟨rfl, Below.setCells _ _ _ _ le_bR.out hK.2⟩
end Go.Proofs.YtgibllaifnnfkaaGreatDoor
