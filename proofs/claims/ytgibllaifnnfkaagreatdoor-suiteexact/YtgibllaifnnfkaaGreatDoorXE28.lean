/- Of the texts JV3, UHP, UP1: what the card of this claim reaches. -/
import Derived.Test.YtgibllaifnnfkaaGreatDoorXE27
import Derived.Deep.CutBlock
import Derived.Test.YtgibllaifnnfkaaGreatDoorXE25
import Derived.Test.YtgibllaifnnfkaaGreatDoorXE23
namespace Go.Proofs.YtgibllaifnnfkaaGreatDoor.J
open Go.RowKit
structure Base (w : World) (R K : Nat) (pa : Option Addr) (pc : Nat) (P : List Int) (w' : World) : Prop where
  res : Own w' R (Array.replicate 32 (.int .u8 0)) 22
  tab : Own w' K kArr 64
  txt : BytesV w' pa P.length pc P
  bel : Below w.heap.size w w'
theorem Base.below {w : World} {R K : Nat} {pa : Option Addr} {pc : Nat} {P : List Int} {a b : World} (h : Base w R K pa pc P a) (hB : Below a.heap.size a b) : Base w R K pa pc P b :=
  ⟨h.res.below hB h.res.lt, h.tab.below hB h.tab.lt, h.txt.below hB, Go.Proofs.YtgibllaifnnfkaaGreatDoor.J.bel h.bel hB⟩
def acc (f : Nat → Int) (k : Nat) : Nat → Int
  | 0 => 0
  | j + 1 => bits .or .u32 (acc f k j * 256 % 4294967296) (f (4 * k + j))
theorem or_join (x y i : Nat) (hx : x % 2 ^ i = 0) (hy : y < 2 ^ i) (h1 : x < 4294967296) (h2 : y < 4294967296) : bits .or .u32 (x : Int) (y : Int) = ((x + y : Nat) : Int) := by
  rw [u32_or_nat x y h1 h2, nat_join i x y hx hy]
theorem word4_sum (a b c d : Nat) (ha : a < 256) (hb : b < 256) (hc : c < 256) (hd : d < 256) : word4 a b c d = ((a * 16777216 + b * 65536 + c * 256 + d : Nat) : Int) := by
  unfold word4
  rw [show (a : Int) * 16777216 = ((a * 16777216 : Nat) : Int) from by omega, show (b : Int) * 65536 = ((b * 65536 : Nat) : Int) from by omega, show (c : Int) * 256 = ((c * 256 : Nat) : Int) from by omega]
  rw [or_join _ _ 24 (by omega) (by omega) (by omega) (by omega), or_join _ _ 16 (by omega) (by omega) (by omega) (by omega), or_join _ _ 8 (by omega) (by omega) (by omega) (by omega)]
theorem acc_step (x : Nat) (b : Nat) (hx : x < 16777216) (hb : b < 256) : bits .or .u32 ((x : Int) * 256 % 4294967296) (b : Int) = ((x * 256 + b : Nat) : Int) := by
  rw [show (x : Int) * 256 % 4294967296 = ((x * 256 : Nat) : Int) from by omega]
  rw [or_join _ _ 8 (by omega) (by omega) (by omega) (by omega)]
theorem acc_four (f : Nat → Int) (k : Nat) (h : ∀ j, j < 4 → 0 ≤ f (4 * k + j) ∧ f (4 * k + j) < 256) : acc f k 4 = word4 (f (4 * k)) (f (4 * k + 1)) (f (4 * k + 2)) (f (4 * k + 3)) := by
  have h0 := h 0 (by decide); have h1 := h 1 (by decide); have h2 := h 2 (by decide); have h3 := h 3 (by decide)
  rw [Nat.add_zero] at h0
  show bits .or .u32 (bits .or .u32 (bits .or .u32 (bits .or .u32 ((0 : Int) * 256 % 4294967296) (f (4 * k + 0)) * 256 % 4294967296) (f (4 * k + 1)) * 256 % 4294967296) (f (4 * k + 2)) * 256 % 4294967296) (f (4 * k + 3)) = _
  rw [Nat.add_zero]
  generalize f (4 * k) = a at *; generalize f (4 * k + 1) = b at *; generalize f (4 * k + 2) = c at *; generalize f (4 * k + 3) = d at *
  obtain ⟨a, rfl⟩ := Int.eq_ofNat_of_zero_le h0.1
  obtain ⟨b, rfl⟩ := Int.eq_ofNat_of_zero_le h1.1
  obtain ⟨c, rfl⟩ := Int.eq_ofNat_of_zero_le h2.1
  obtain ⟨d, rfl⟩ := Int.eq_ofNat_of_zero_le h3.1
  rw [word4_sum a b c d (by omega) (by omega) (by omega) (by omega)]
  rw [show (0 : Int) = ((0 : Nat) : Int) from rfl, acc_step 0 a (by omega) (by omega), acc_step _ b (by omega) (by omega), acc_step _ c (by omega) (by omega), acc_step _ d (by omega) (by omega)]
  omega
theorem at_back' (f : Nat → Int) (k c : Nat) (ci : Int) (hci : ci = c) (hk : k ≤ 64) (h : c ≤ k) (hc : 0 < c) : ∃ (i : Nat) (v : Int), IntKind.i64.wrap ((k : Int) - ci) = (i : Int) ∧ (wordsArr (sched f k))[i]? = some (.int .u32 v) ∧ (i : Int) < 64 ∧ (0 : Int) ≤ (i : Int) ∧ Hid (v = (sched f k).getD (k - c) 0) ∧ k ≠ i :=
  ⟨k - c, _, by rw [hci, i64_sub k c hk (by omega) (by omega)]; omega, wordsArr_old _ _ (by rw [sched_length]; omega), by omega, by omega, rfl, by omega⟩
theorem sum_u32 (a b c d : Int) : IntKind.u32.wrap (IntKind.u32.wrap (IntKind.u32.wrap (a + b) + c) + d) = (a + c + b + d) % 4294967296 := by
  rw [IntKind.wrap_u32, IntKind.wrap_u32, IntKind.wrap_u32]; omega
theorem wordsArr_same (l : List Int) (h : l.length < 64) : (wordsArr l).setIfInBounds l.length (.int .u32 0) = wordsArr l := by
  apply Array.ext_getElem?
  intro i
  rw [Array.getElem?_setIfInBounds]
  split
  · rename_i e
    rw [← e]
    have := wordsArr_new l h
    split
    · exact this.symm
    · rename_i h2; rw [wordsArr_size l (by omega)] at h2; omega
  · rfl
theorem Base.set {w : World} {R K : Nat} {pb po : Nat} {pc : Nat} {P : List Int} {a b : World} {g : Nat} (h : Base w R K (some ⟨pb, po, none⟩) pc P a) (hg : a.grownBy b (some g)) (h1 : R ≠ g) (h2 : K ≠ g) (h3 : pb ≠ g) (h4 : w.heap.size ≤ g) : Base w R K (some ⟨pb, po, none⟩) pc P b := by
  refine ⟨h.res.grown hg h1, h.tab.grown hg h2, ?_, belg h.bel hg h4⟩
  obtain ⟨k1, k2, k3, k4, k5⟩ := h.txt
  refine ⟨k1, k2, k3, k4, fun hp => ?_⟩
  obtain ⟨b', off, e, hr⟩ := k5 hp
  simp only [Option.some.injEq, Addr.mk.injEq] at e
  obtain ⟨rfl, rfl, _⟩ := e
  exact ⟨_, _, rfl, range_grown hr hg h3⟩
theorem Base.byte {w : World} {R K : Nat} {pb po : Nat} {pc : Nat} {P : List Int} {a : World} (h : Base w R K (some ⟨pb, po, none⟩) pc P a) (i : Nat) (hi : i < P.length) : a.cell? ⟨pb, po + i, none⟩ = some (.int .u8 (P.getD i 0)) := by
  obtain ⟨b', off, e, hr⟩ := h.txt.2.2.2.2 (by omega)
  simp only [Option.some.injEq, Addr.mk.injEq] at e
  obtain ⟨rfl, rfl, _⟩ := e
  exact hr i _ (by simp [u8s, hi, List.getD])
def addTo (s r : St) (k : Nat) : List Int := (stWords (addSt s r)).take k ++ (stWords s).drop k
theorem addTo_eight (s r : St) : ((addTo s r 8).map (Value.int .u32)).toArray = stArr (addSt s r) := rfl
theorem addTo_at (s r : St) (k : Nat) (h : k < 8) : ((addTo s r k).map (Value.int .u32)).toArray[k]? = some (.int .u32 ((stWords s).getD k 0)) := by
  rcases k with _ | _ | _ | _ | _ | _ | _ | _ | k
  all_goals first | rfl | omega
theorem stArr_at (s : St) (k : Nat) (h : k < 8) : (stArr s)[k]? = some (.int .u32 ((stWords s).getD k 0)) := by
  rcases k with _ | _ | _ | _ | _ | _ | _ | _ | k
  all_goals first | rfl | omega
theorem addTo_step (s r : St) (k : Nat) (h : k < 8) : ((addTo s r k).map (Value.int .u32)).toArray.setIfInBounds k (.int .u32 (((stWords s).getD k 0 + (stWords r).getD k 0) % 4294967296)) = ((addTo s r (k + 1)).map (Value.int .u32)).toArray := by
  rcases k with _ | _ | _ | _ | _ | _ | _ | _ | k
  all_goals first | (simp [addTo, stWords, addSt]; done) | omega
theorem st_facts {w : World} {g : Nat} {s : St} {t : TypeId} (h : Own w g (stArr s) t) :
    w.cell? ⟨g, 0, none⟩ = some (.int .u32 s.a) ∧ w.cell? ⟨g, 1, none⟩ = some (.int .u32 s.b) ∧ w.cell? ⟨g, 2, none⟩ = some (.int .u32 s.c) ∧ w.cell? ⟨g, 3, none⟩ = some (.int .u32 s.d) ∧ w.cell? ⟨g, 4, none⟩ = some (.int .u32 s.e) ∧ w.cell? ⟨g, 5, none⟩ = some (.int .u32 s.f) ∧ w.cell? ⟨g, 6, none⟩ = some (.int .u32 s.g) ∧ w.cell? ⟨g, 7, none⟩ = some (.int .u32 s.h) :=
  ⟨h.cell rfl, h.cell rfl, h.cell rfl, h.cell rfl, h.cell rfl, h.cell rfl, h.cell rfl, h.cell rfl⟩
def outArr (s : St) (k : Nat) : Array Value := (u8s ((sumBytes s).take k) ++ List.replicate (32 - k) (Value.int .u8 0)).toArray
theorem sumBytes_length (s : St) : (sumBytes s).length = 32 := by rw [sumBytes, flat_length]; rfl
theorem outArr_zero (s : St) : outArr s 0 = Array.replicate 32 (.int .u8 0) := rfl
theorem outArr_full (s : St) : outArr s 32 = (u8s (sumBytes s)).toArray := by
  rw [outArr, List.take_of_length_le (by rw [sumBytes_length]; decide)]; simp
theorem sumBytes_at (s : St) (hs : s.ok) (i j : Nat) (hi : i < 8) (hj : j < 4) : (sumBytes s)[4 * i + j]? = some ((stWords s).getD i 0 / 2 ^ (24 - 8 * j) % 256) := by
  obtain ⟨h0, h1, h2, h3, h4, h5, h6, h7⟩ := hs
  rcases j with _ | _ | _ | _ | j
  · rcases i with _ | _ | _ | _ | _ | _ | _ | _ | i
    all_goals first | omega | (simp [sumBytes, stWords, be4]; omega)
  · rcases i with _ | _ | _ | _ | _ | _ | _ | _ | i
    all_goals first | omega | (simp [sumBytes, stWords, be4]; done)
  · rcases i with _ | _ | _ | _ | _ | _ | _ | _ | i
    all_goals first | omega | (simp [sumBytes, stWords, be4]; done)
  · rcases i with _ | _ | _ | _ | _ | _ | _ | _ | i
    all_goals first | omega | (simp [sumBytes, stWords, be4]; done)
  · omega
theorem outArr_at (s : St) (k : Nat) (hk : k < 32) : (outArr s k)[k]? = some (.int .u8 0) := by
  have hl := sumBytes_length s
  rw [outArr, List.getElem?_toArray, List.getElem?_append_right (by simp [u8s]; omega), show k - (u8s ((sumBytes s).take k)).length = 0 from by simp [u8s]; omega, show 32 - k = (32 - (k + 1)) + 1 from by omega, List.replicate_succ]
  rfl
theorem outArr_step (s : St) (k : Nat) (y : Int) (hk : k < 32) (hy : (sumBytes s)[k]? = some y) : (outArr s k).setIfInBounds k (.int .u8 y) = outArr s (k + 1) := by
  have hl := sumBytes_length s
  have hkl : k < (sumBytes s).length := by omega
  rw [List.getElem?_eq_getElem hkl] at hy
  rw [outArr, outArr, List.take_succ_eq_append_getElem hkl, Option.some.inj hy, show 32 - k = (32 - (k + 1)) + 1 from by omega, List.replicate_succ, List.setIfInBounds_toArray]
  congr 1
  rw [List.set_append_right _ _ (by simp [u8s]; omega), show k - (u8s ((sumBytes s).take k)).length = 0 from by simp [u8s]; omega]
  simp [u8s]
theorem st_frozen {w : World} {g : Nat} {s : St} {t : TypeId} (h : Own w g (stArr s) t) :
    w.frozen? ⟨g, 0, none⟩ = false ∧ w.frozen? ⟨g, 1, none⟩ = false ∧ w.frozen? ⟨g, 2, none⟩ = false ∧ w.frozen? ⟨g, 3, none⟩ = false ∧ w.frozen? ⟨g, 4, none⟩ = false ∧ w.frozen? ⟨g, 5, none⟩ = false ∧ w.frozen? ⟨g, 6, none⟩ = false ∧ w.frozen? ⟨g, 7, none⟩ = false :=
  ⟨h.frozen _, h.frozen _, h.frozen _, h.frozen _, h.frozen _, h.frozen _, h.frozen _, h.frozen _⟩
theorem eight_cells (w : World) (g : Nat) (c0 c1 c2 c3 c4 c5 c6 c7 : Value) : (((((((w.setCell ⟨g, 0, none⟩ c0).setCell ⟨g, 1, none⟩ c1).setCell ⟨g, 2, none⟩ c2).setCell ⟨g, 3, none⟩ c3).setCell ⟨g, 4, none⟩ c4).setCell ⟨g, 5, none⟩ c5).setCell ⟨g, 6, none⟩ c6).setCell ⟨g, 7, none⟩ c7 = w.setCells g 0 [c0, c1, c2, c3, c4, c5, c6, c7] := rfl
theorem ones_is : ones = IntKind.u32.max := by unfold ones; rw [if_neg (by decide)]
theorem tone_is (kk wk : Int) (r : St) : (r.h + bits BinOp.xor IntKind.u32 (bits BinOp.xor IntKind.u32 (rotl r.e 26) (rotl r.e 21)) (rotl r.e 7) + bits BinOp.xor IntKind.u32 (bits BinOp.and IntKind.u32 r.e r.f) (bits BinOp.and IntKind.u32 (bits BinOp.xor IntKind.u32 IntKind.u32.max r.e) r.g) + kk + wk) % 4294967296 = tone kk wk r := by
  rw [← ones_is]; rfl
theorem ttwo_is (r : St) : (bits BinOp.xor IntKind.u32 (bits BinOp.xor IntKind.u32 (rotl r.a 30) (rotl r.a 19)) (rotl r.a 10) + bits BinOp.xor IntKind.u32 (bits BinOp.xor IntKind.u32 (bits BinOp.and IntKind.u32 r.a r.b) (bits BinOp.and IntKind.u32 r.a r.c)) (bits BinOp.and IntKind.u32 r.b r.c)) % 4294967296 = ttwo r := rfl
set_option maxRecDepth 100000 in
set_option maxHeartbeats 20000000 in
theorem ref_any (a : Option Addr) (cap : Nat) (m : List Int) (w : World) (hm : BytesV w a m.length cap m) (hcap : a = none → cap = 0) (hl : m.length ≤ 1000000) :
    Calls Tryz.prog 22 #[.slice a m.length cap] w fun e w' => e = .returned (.agg (dig m)) ∧ Below w.heap.size w w' := by
  go_enter Tryz.func22, Tryz.ntmps22
  go_upto_region 1 with fail
  have oR := own_new w (Array.replicate 32 (Value.int .u8 0)) 22
  have hb1 := (Below.refl w.heap.size w).alloc (Nat.le_refl _) (.cells (Array.replicate 32 (Value.int .u8 0)) 22)
  generalize hW1 : w.alloc (.cells (Array.replicate 32 (Value.int .u8 0)) 22) = W1 at *
  rw [show w.alloc (.cells #[.int .u8 0, .int .u8 0, .int .u8 0, .int .u8 0, .int .u8 0, .int .u8 0, .int .u8 0, .int .u8 0, .int .u8 0, .int .u8 0, .int .u8 0, .int .u8 0, .int .u8 0, .int .u8 0, .int .u8 0, .int .u8 0, .int .u8 0, .int .u8 0, .int .u8 0, .int .u8 0, .int .u8 0, .int .u8 0, .int .u8 0, .int .u8 0, .int .u8 0, .int .u8 0, .int .u8 0, .int .u8 0, .int .u8 0, .int .u8 0, .int .u8 0, .int .u8 0] 22) = W1 from hW1]
  clear hW1
  go_wp2_with fail
  refine (k256_any _).mono ?_
  rintro e w2 ⟨rfl, hb2⟩
  have oR2 := oR.below hb2 oR.lt
  have hb12 := bel hb1 hb2
  clear oR hb1 hb2
  have hki := kArr_info
  have hks := kArr_size
  go_upto_region 2 with (refine wpList_store_new (by rfl) 64 (.tmp 3) (.tmp 21) (by rfl) _ kArr (by rfl) (by rfl) hki (by rw [hks]; rfl) kArr_one (by rfl) ?_)
  have oK := own_new w2 kArr 64
  have oR3 := oR2.alloc (.cells kArr 64)
  have hb3 := hb12.alloc hb12.size (.cells kArr 64)
  have hRK : w.heap.size ≠ w2.heap.size := Nat.ne_of_lt oR2.lt
  have hKb : w.heap.size ≤ w2.heap.size := hb12.size
  generalize w2.alloc (.cells kArr 64) = w3 at *
  generalize w2.heap.size = K at *
  clear oR2 hb12 hki hks
  go_upto_region 3 with (refine wpList_store_new (by rfl) 66 (.tmp 4) (.tmp 22) (by rfl) _ (stArr start) (by rfl) (by rfl) info42 (by rfl) (stArr_one _) (by rfl) ?_)
  have oH := own_new w3 (stArr start) 66
  have oK4 := oK.alloc (.cells (stArr start) 66)
  have oR4 := oR3.alloc (.cells (stArr start) 66)
  have hb4 := hb3.alloc hb3.size (.cells (stArr start) 66)
  have hRH : w.heap.size ≠ w3.heap.size := Nat.ne_of_lt oR3.lt
  have hKH : K ≠ w3.heap.size := Nat.ne_of_lt oK.lt
  have hHb : w.heap.size ≤ w3.heap.size := hb3.size
  generalize w3.alloc (.cells (stArr start) 66) = w4 at *
  generalize w3.heap.size = Hb at *
  have hH4 : Hb < w4.heap.size := oH.lt
  clear oK oR3 hb3
  go_wp2_with fail
  refine (padded_any a cap m _ (hm.below hb4) hcap hl).mono ?_
  rintro e w5 ⟨pa, pc, rfl, hV5, hb5, hfresh⟩
  obtain ⟨P, HP⟩ : ∃ P, Hid (P = m ++ padL m.length) := ⟨_, rfl⟩
  rw [← HP.out]
  rw [← HP.out] at hV5
  have hBase : Base w w.heap.size K pa pc P w5 := ⟨oR4.below hb5 oR4.lt, oK4.below hb5 oK4.lt, hV5, bel hb4 hb5⟩
  have oH5 := oH.below hb5 oH.lt
  have hP64 : P.length % 64 = 0 := by rw [HP.out, List.length_append]; exact padL_whole _
  have hPl : P.length ≤ 2000000 := by rw [HP.out, List.length_append, padL_length]; unfold noughts; omega
  clear oR4 oK4 hb4 hb5 hV5 oH
  have hP1 : 64 ≤ P.length := by
    have h1 : 0 < P.length := by rw [HP.out, List.length_append, padL_length]; omega
    omega
  obtain ⟨pb, po, rfl, hR5⟩ := hBase.txt.2.2.2.2 (by omega)
  have hbt : pb < w5.heap.size := range_lt hR5 (by omega)
  have bP : Bys P := hBase.txt.2.2.2.1
  have hpH : pb ≠ Hb := by have := hfresh _ rfl; simp only at this; omega
  clear hR5 hfresh hH4
  go_wp2_with fail
  go_loopw [6] (fun i wr => ∃ t : Nat, 64 * t ≤ P.length ∧ i = .int .i64 ((64 * t : Nat) : Int) ∧ Base w w.heap.size K (some ⟨pb, po, none⟩) pc P wr ∧ Own wr Hb (stArr (blocks (fun i => P.getD i 0) t)) 66) (fun i _ => P.length - (intOf i).toNat)
  case atStart => exact ⟨0, Nat.zero_le _, rfl, hBase, oH5⟩
  case round =>
    clear hBase oH5 hbt
    obtain ⟨t, ht, rfl, hBase, oH⟩ := hrel
    obtain ⟨A, HA⟩ : ∃ A, Hid (A = 64 * t) := ⟨_, rfl⟩
    have hA64 : A % 64 = 0 := by rw [HA.out]; omega
    rw [← HA.out] at ht ⊢
    by_cases hlt : A < P.length
    · have hAi : (A : Int) < (P.length : Int) := by omega
      have hA64' : A + 64 ≤ P.length := by omega
      have hAi2 : (A : Int) ≤ 2000000 := by omega
      obtain ⟨f, Hf⟩ : ∃ f : Nat → Int, Hid (f = fun i => P.getD (A + i) 0) := ⟨_, rfl⟩
      obtain ⟨st, Hst⟩ : ∃ st, Hid (st = blocks (fun i => P.getD i 0) t) := ⟨_, rfl⟩
      rw [← Hst.out] at oH
      go_upto_region 8 with fail
      have oW := own_new wr (wordsArr []) 64
      have hal := alloc_below wr (.cells (wordsArr []) 64)
      have oH2 := oH.alloc (.cells (wordsArr []) 64)
      have hB2 := hBase.below hal
      have hHW : Hb ≠ wr.heap.size := Nat.ne_of_lt oH.lt
      have hKW : K ≠ wr.heap.size := Nat.ne_of_lt hBase.tab.lt
      have hRW : w.heap.size ≠ wr.heap.size := Nat.ne_of_lt hBase.res.lt
      have hWb : w.heap.size ≤ wr.heap.size := hBase.bel.size
      have hpW : pb ≠ wr.heap.size := by
        obtain ⟨b, off, e, hr⟩ := hBase.txt.2.2.2.2 (by omega)
        simp only [Option.some.injEq, Addr.mk.injEq] at e
        have := range_lt hr (by omega)
        omega
      generalize hw2 : wr.alloc (.cells (wordsArr []) 64) = w2 at *
      rw [show wr.alloc (.cells #[.int .u32 0, .int .u32 0, .int .u32 0, .int .u32 0, .int .u32 0, .int .u32 0, .int .u32 0, .int .u32 0, .int .u32 0, .int .u32 0, .int .u32 0, .int .u32 0, .int .u32 0, .int .u32 0, .int .u32 0, .int .u32 0, .int .u32 0, .int .u32 0, .int .u32 0, .int .u32 0, .int .u32 0, .int .u32 0, .int .u32 0, .int .u32 0, .int .u32 0, .int .u32 0, .int .u32 0, .int .u32 0, .int .u32 0, .int .u32 0, .int .u32 0, .int .u32 0, .int .u32 0, .int .u32 0, .int .u32 0, .int .u32 0, .int .u32 0, .int .u32 0, .int .u32 0, .int .u32 0, .int .u32 0, .int .u32 0, .int .u32 0, .int .u32 0, .int .u32 0, .int .u32 0, .int .u32 0, .int .u32 0, .int .u32 0, .int .u32 0, .int .u32 0, .int .u32 0, .int .u32 0, .int .u32 0, .int .u32 0, .int .u32 0, .int .u32 0, .int .u32 0, .int .u32 0, .int .u32 0, .int .u32 0, .int .u32 0, .int .u32 0, .int .u32 0] 64) = w2 from hw2]
      clear hw2 hal oH hBase
      generalize wr.heap.size = Wb at *
      go_wp2_with fail
      go_loopw [8] (fun i wx => ∃ k : Nat, k ≤ 64 ∧ i = .int .i64 (k : Int) ∧ Base w w.heap.size K (some ⟨pb, po, none⟩) pc P wx ∧ Own wx Hb (stArr st) 66 ∧ Own wx Wb (wordsArr (sched f k)) 64) (fun i _ => 64 - (intOf i).toNat)
      case atStart => exact ⟨0, Nat.zero_le _, rfl, hB2, oH2, oW⟩
      case round =>
        clear hB2 oH2 oW
        obtain ⟨k, hk, rfl, hB, oH, oW⟩ := hrel
        by_cases hk16 : k < 16
        · have hki : (k : Int) < 16 := by omega
          have hki2 : (k : Int) < 64 := by omega
          have hsl := sched_length f k
          have hsame := wordsArr_same (sched f k) (by omega)
          rw [hsl] at hsame
          rw [← hsame] at oW
          have HSL := show Hid _ from hsl
          clear hsame hsl
          go_wp2_with fail
          go_loopw [9] (fun i wx => ∃ j : Nat, j ≤ 4 ∧ i = .int .i64 (j : Int) ∧ Base w w.heap.size K (some ⟨pb, po, none⟩) pc P wx ∧ Own wx Hb (stArr st) 66 ∧ Own wx Wb ((wordsArr (sched f k)).setIfInBounds k (.int .u32 (acc f k j))) 64) (fun i _ => 4 - (intOf i).toNat)
          case atStart => exact ⟨0, Nat.zero_le _, rfl, hB, oH, oW⟩
          case round =>
            clear hB oH oW
            obtain ⟨j, hj, rfl, hB, oH, oW⟩ := hrel
            have hsz : (wordsArr (sched f k)).size = 64 := wordsArr_size _ (by rw [HSL.out]; omega)
            have cW := oW.cell (i := k) (v := .int .u32 (acc f k j)) (by rw [Array.getElem?_setIfInBounds_self, if_pos (by omega)])
            have fW := oW.frozen k
            by_cases hj4 : j < 4
            · have hji : (j : Int) < 4 := by omega
              obtain ⟨x, Hx⟩ : ∃ x, Hid (x = A + 4 * k + j) := ⟨_, rfl⟩
              have hxi : (A : Int) + 4 * (k : Int) + (j : Int) = (x : Int) := by rw [Hx.out]; omega
              have hxl : (x : Int) < (P.length : Int) := by rw [Hx.out]; omega
              have hx0 : (0 : Int) ≤ (x : Int) := by omega
              have hfx : P.getD x 0 = f (4 * k + j) := by rw [Hf.out, Hx.out, Nat.add_assoc]
              have cP := hB.byte x (by omega)
              rw [hfx] at cP
              have hbx : 0 ≤ f (4 * k + j) ∧ f (4 * k + j) < 256 := by
                rw [← hfx]
                have hxP : x < P.length := by omega
                have e : P.getD x 0 = P[x] := by simp [List.getD, hxP]
                rw [e]; exact bP _ (List.getElem_mem hxP)
              clear hfx
              have Hacc : Hid (acc f k (j + 1) = bits .or .u32 (acc f k j * 256 % 4294967296) (f (4 * k + j))) := rfl
              generalize f (4 * k + j) = y at *
              generalize acc f k j = ac at *
              go_wp2_with fail
              go_region
              go_wp2_with fail
              go_roundw
              case rel =>
                have hg := grown_setCell wr Wb k (.int .u32 (bits .or .u32 (ac * 256 % 4294967296) y))
                refine ⟨j + 1, by omega, by go_num, ?_, ?_, ?_⟩
                · exact (hB.set hg hRW hKW hpW hWb).below ((Below.refl _ _).drew)
                · have h3 := oH.grown hg hHW
                  exact h3
                · have h2 := oW.setCell k (.int .u32 (bits .or .u32 (ac * 256 % 4294967296) y))
                  rw [Array.setIfInBounds_setIfInBounds] at h2
                  rw [Hacc.out]; exact h2
              case measure => simp [intOf]; omega
            · have hj4' : j = 4 := by omega
              subst hj4'
              have hw4 : (wordsArr (sched f k)).setIfInBounds k (.int .u32 (acc f k 4)) = wordsArr (sched f (k + 1)) := by
                rw [acc_four f k (fun j hj => ?_), sched_first f k hk16]
                have hxP : A + (4 * k + j) < P.length := by omega
                have e : f (4 * k + j) = P[A + (4 * k + j)] := by rw [Hf.out]; simp [List.getD, hxP]
                rw [e]; exact bP _ (List.getElem_mem hxP)
              rw [hw4] at oW
              clear hw4 cW fW
              go_wp2_with fail
              refine ⟨⟨k + 1, by omega, by go_num, hB, oH, oW⟩, by simp [intOf]; omega⟩
        · by_cases hk64 : k < 64
          · have hki : ¬ (k : Int) < 16 := by omega
            have hki2 : (k : Int) < 64 := by omega
            obtain ⟨i15, v15, w15, g15, p15, q15, H15⟩ := at_back f k 15 15 rfl hk (by omega) (by decide)
            obtain ⟨i2, v2, e2, g2, p2, q2, H2⟩ := at_back f k 2 2 rfl hk (by omega) (by decide)
            obtain ⟨i16, v16, w16, g16, p16, q16, H16, n16⟩ := at_back' f k 16 16 rfl hk (by omega) (by decide)
            obtain ⟨i7, v7, w7, g7, p7, q7, H7, n7⟩ := at_back' f k 7 7 rfl hk (by omega) (by decide)
            have hg0 := wordsArr_new (sched f k) (by rw [sched_length]; omega)
            rw [sched_length] at hg0
            have c15 := oW.cell g15
            have c2 := oW.cell g2
            have c16 := oW.cell g16
            have c7 := oW.cell g7
            have c0 := oW.cell hg0
            have f0 := oW.frozen k
            have na16 : (⟨Wb, k, none⟩ : Addr) ≠ ⟨Wb, i16, none⟩ := fun e => n16 (Addr.mk.inj e).2.1
            have na7 : (⟨Wb, k, none⟩ : Addr) ≠ ⟨Wb, i7, none⟩ := fun e => n7 (Addr.mk.inj e).2.1
            clear g15 g2 g16 g7 hg0 n16 n7
            go_wp2_with fail
            go_quiet (fail)
            go_wp2_with fail
            go_region_held3 (fun w' => w'.cell? ⟨Wb, i16, none⟩ = some (.int .u32 v16) ∧ w'.cell? ⟨Wb, i7, none⟩ = some (.int .u32 v7)) ((simp only [World.cell?_setCell_other _ _ _ _ na16, World.cell?_setCell_other _ _ _ _ na7, World.cell?_drewN, World.cell?_drew]; exact ⟨c16, c7⟩))
              (first | (go_at_call 44; refine (rot32_any _ _ _ (by decide) (by decide)).mono ?_; rintro e w' ⟨rfl, rfl⟩))
            go_wp2_with fail
            go_roundw
            case rel =>
              have hsum := sum_u32 v16 v7 (sig0 v15) (sig1 v2)
              have hg := grown_setCell (wr.drewN (nq + 1)) Wb k (.int .u32 (IntKind.u32.wrap (IntKind.u32.wrap (IntKind.u32.wrap (v16 + v7) + sig0 v15) + sig1 v2)))
              refine ⟨k + 1, by omega, by go_num, ?_, ?_, ?_⟩
              · exact (hB.below (below_drewN (Below.refl _ _) _)).set hg hRW hKW hpW hWb
              · exact (oH.drewN _).grown hg hHW
              · have h2 := (oW.drewN (nq + 1)).setCell k (.int .u32 (IntKind.u32.wrap (IntKind.u32.wrap (IntKind.u32.wrap (v16 + v7) + sig0 v15) + sig1 v2)))
                rw [hsum, H16.out, H15.out, H7.out, H2.out] at h2
                rw [sched_later f k (by omega) hk64]
                rw [← H16.out, ← H15.out, ← H7.out, ← H2.out, ← hsum] at h2 ⊢
                exact h2
            case measure => simp [intOf]; omega
          · have hki : ¬ (k : Int) < 64 := by omega
            have Hk : Hid (k = 64) := show k = 64 by omega
            have hws : ∀ i, i < 64 → (wordsArr (sched f k))[i]? = some (.int .u32 ((sched f 64).getD i 0)) := fun i hi => by rw [Hk.out]; exact wordsArr_old _ _ (by rw [sched_length]; exact hi)
            obtain ⟨wf, Hwf⟩ : ∃ wf : Nat → Int, Hid (wf = fun i => (sched f 64).getD i 0) := ⟨_, rfl⟩
            have hws : ∀ i, i < 64 → (wordsArr (sched f k))[i]? = some (.int .u32 (wf i)) := fun i hi => by rw [Hwf.out]; exact hws i hi
            generalize wordsArr (sched f k) = ws at *
            go_upto_region 18 with fail
            clear hki hk64 hk16
            go_upto_region 19 with (first | refine wpList_load_own (by rfl) 66 (.tmp 4) (by rfl) Hb (by rfl) (stArr st) _ oH Tryz.underlying66 (by rfl) info42 ?_ | refine wpList_store_new (by rfl) 66 (.tmp 12) (.tmp 95) (by rfl) _ (stArr st) (by rfl) (by rfl) info42 (by rfl) (stArr_one _) (by rfl) ?_)
            have oV := own_new wr (stArr st) 66
            have hal := alloc_below wr (.cells (stArr st) 66)
            have oH3 := oH.alloc (.cells (stArr st) 66)
            have oW3 := oW.alloc (.cells (stArr st) 66)
            have hB3 := hB.below hal
            have hHV : Hb ≠ wr.heap.size := Nat.ne_of_lt oH.lt
            have hKV : K ≠ wr.heap.size := Nat.ne_of_lt hB.tab.lt
            have hRV : w.heap.size ≠ wr.heap.size := Nat.ne_of_lt hB.res.lt
            have hWV : Wb ≠ wr.heap.size := Nat.ne_of_lt oW.lt
            have hVb : w.heap.size ≤ wr.heap.size := hB.bel.size
            have hpV : pb ≠ wr.heap.size := by
              obtain ⟨b, off, e, hr⟩ := hB.txt.2.2.2.2 (by omega)
              simp only [Option.some.injEq, Addr.mk.injEq] at e
              have := range_lt hr (by omega)
              omega
            generalize wr.alloc (.cells (stArr st) 66) = w3 at *
            generalize wr.heap.size = Vb at *
            clear hal oH oW hB
            go_wp2_with fail
            go_loopw [13] (fun i wx => ∃ k : Nat, k ≤ 64 ∧ i = .int .i64 (k : Int) ∧ Base w w.heap.size K (some ⟨pb, po, none⟩) pc P wx ∧ Own wx Hb (stArr st) 66 ∧ Own wx Wb ws 64 ∧ Own wx Vb (stArr (rnds wf st k)) 66) (fun i _ => 64 - (intOf i).toNat)
            case atStart => exact ⟨0, Nat.zero_le _, rfl, hB3, oH3, oW3, oV⟩
            case round =>
              clear hB3 oH3 oW3 oV Hk
              obtain ⟨k, hk, rfl, hB, oH, oW, oV⟩ := hrel
              by_cases hk64 : k < 64
              · have hki : (k : Int) < 64 := by omega
                have hk0 : (0 : Int) ≤ (k : Int) := by omega
                have cW := oW.cell (hws k hk64)
                have cK := hB.tab.cell (kArr_at k hk64)
                obtain ⟨r, Hr⟩ : ∃ r, Hid (r = rnds wf st k) := ⟨_, rfl⟩
                have Hst2 : Hid (rnds wf st (k + 1) = rnd (kays.getD k 0) (wf k) r) := by show _ = _; rw [Hr.out]; rfl
                rw [← Hr.out] at oV
                generalize kays.getD k 0 = kk at *
                generalize wf k = wk at *
                obtain ⟨v0, v1, v2, v3, v4, v5, v6, v7⟩ := st_facts oV
                go_wp2_with fail
                go_quiet (fail)
                have hB := hB.below (below_drewN (Below.refl _ _) nq)
                have oH := oH.drewN nq
                have oW := oW.drewN nq
                have oV := oV.drewN nq
                have cW : (wr.drewN nq).cell? ⟨Wb, k, none⟩ = some (.int .u32 wk) := cW
                have cK : (wr.drewN nq).cell? ⟨K, k, none⟩ = some (.int .u32 kk) := cK
                clear v0 v1 v2 v3 v4 v5 v6 v7
                generalize wr.drewN nq = wq at hB oH oW oV cW cK ⊢
                obtain ⟨v0, v1, v2, v3, v4, v5, v6, v7⟩ := st_facts oV
                go_wp2_with fail
                go_quiet ((go_at_call 44; exact Calls.quiet_of_same (rot32_any _ _ _ (by decide) (by decide))))
                have hB := hB.below (below_drewN (Below.refl _ _) nq)
                have oH := oH.drewN nq
                have oW := oW.drewN nq
                have oV := oV.drewN nq
                clear v0 v1 v2 v3 v4 v5 v6 v7 cW cK
                generalize wq.drewN nq = wq2 at hB oH oW oV ⊢
                obtain ⟨v0, v1, v2, v3, v4, v5, v6, v7⟩ := st_facts oV
                go_wp2_with fail
                go_quiet ((go_at_call 44; exact Calls.quiet_of_same (rot32_any _ _ _ (by decide) (by decide))))
                have hB := hB.below (below_drewN (Below.refl _ _) nq)
                have oH := oH.drewN nq
                have oW := oW.drewN nq
                have oV := oV.drewN nq
                clear v0 v1 v2 v3 v4 v5 v6 v7
                generalize wq2.drewN nq = wq3 at hB oH oW oV ⊢
                obtain ⟨v0, v1, v2, v3, v4, v5, v6, v7⟩ := st_facts oV
                go_upto_region 25 with fail
                obtain ⟨T1, H1⟩ : ∃ T1, Hid (T1 = tone kk wk r) := ⟨_, rfl⟩
                obtain ⟨T2, H2⟩ : ∃ T2, Hid (T2 = ttwo r) := ⟨_, rfl⟩
                rw [tone_is kk wk r, ttwo_is r, ← H1.out, ← H2.out]
                have Hrnd : Hid (stArr (rnd kk wk r) = #[.int .u32 ((T1 + T2) % 4294967296), .int .u32 r.a, .int .u32 r.b, .int .u32 r.c, .int .u32 ((r.d + T1) % 4294967296), .int .u32 r.e, .int .u32 r.f, .int .u32 r.g]) := by
                  show _ = _
                  rw [H1.out, H2.out]; rfl
                generalize r.a = ra at *
                generalize r.b = rb at *
                generalize r.c = rc at *
                generalize r.d = rd at *
                generalize r.e = re at *
                generalize r.f = rf at *
                generalize r.g = rg at *
                have HrL : Hid ((stArr (rnd kk wk r)).toList = [.int .u32 ((T1 + T2) % 4294967296), .int .u32 ra, .int .u32 rb, .int .u32 rc, .int .u32 ((rd + T1) % 4294967296), .int .u32 re, .int .u32 rf, .int .u32 rg]) := by
                  show _ = _
                  rw [Hrnd.out]
                obtain ⟨z0, z1, z2, z3, z4, z5, z6, z7⟩ := st_frozen oV
                go_wp2_with fail
                rw [eight_cells, ← HrL.out]
                have hg := grown_setCells Vb (stArr (rnd kk wk r)).toList 0 wq3
                refine ⟨⟨k + 1, by omega, by go_num, hB.set hg hRV hKV hpV hVb, oH.grown hg hHV, oW.grown hg hWV, ?_⟩, by simp [intOf]; omega⟩
                rw [Hst2.out]; exact own_setCells oV rfl
              · have hki : ¬ (k : Int) < 64 := by omega
                have hk' : k = 64 := by omega
                obtain ⟨r, Hr⟩ : ∃ r, Hid (r = rnds wf st 64) := ⟨_, rfl⟩
                rw [hk', ← Hr.out] at oV
                clear hk'
                go_wp2_with fail
                clear hki hk64 hk
                go_loopw [18] (fun i wx => ∃ k : Nat, k ≤ 8 ∧ i = .int .i64 (k : Int) ∧ Base w w.heap.size K (some ⟨pb, po, none⟩) pc P wx ∧ Own wx Hb ((addTo st r k).map (Value.int .u32)).toArray 66 ∧ Own wx Vb (stArr r) 66) (fun i _ => 8 - (intOf i).toNat)
                case atStart => exact ⟨0, Nat.zero_le _, rfl, hB, oH, oV⟩
                case round =>
                  clear hB oH oV oW
                  obtain ⟨k, hk, rfl, hB, oH, oV⟩ := hrel
                  by_cases hk8 : k < 8
                  · have hki : (k : Int) < 8 := by omega
                    have hk0 : (0 : Int) ≤ (k : Int) := by omega
                    have cH := oH.cell (addTo_at st r k hk8)
                    have cV := oV.cell (stArr_at r k hk8)
                    have fH := oH.frozen k
                    have Hs := show Hid _ from addTo_step st r k hk8
                    generalize (stWords st).getD k 0 = x at *
                    generalize (stWords r).getD k 0 = y at *
                    go_wp2_with fail
                    go_region
                    go_wp2_with fail
                    go_roundw
                    case rel =>
                      have hg := grown_setCell wr Hb k (.int .u32 ((x + y) % 4294967296))
                      refine ⟨k + 1, by omega, by go_num, ?_, ?_, ?_⟩
                      · exact (hB.set hg hRH hKH hpH hHb).below ((Below.refl _ _).drew)
                      · rw [← Hs.out]
                        have h3 := oH.setCell k (.int .u32 ((x + y) % 4294967296))
                        exact h3
                      · have h3 := oV.grown hg (Ne.symm hHV)
                        exact h3
                    case measure => simp [intOf]; omega
                  · have hki : ¬ (k : Int) < 8 := by omega
                    have hk' : k = 8 := by omega
                    rw [hk', addTo_eight] at oH
                    clear hk'
                    go_wp2_with fail
                    refine ⟨⟨t + 1, by have := HA.out; omega, ?_, hB, ?_⟩, ?_⟩
                    · have := HA.out; congr 1; omega
                    · rw [blocks, ← Hst.out]
                      have e : mixS st f = addSt st r := by rw [mixS, Hr.out, Hwf.out]
                      rw [show (fun i => P.getD (64 * t + i) 0) = f from by rw [Hf.out, HA.out], e]
                      exact oH
                    · simp [intOf]; omega
    · have hAi : ¬ (A : Int) < (P.length : Int) := by omega
      have Hend : Hid (blocks (fun i => P.getD i 0) t = endSt m) := by
        show _ = _
        have e : t = P.length / 64 := by have := HA.out; omega
        rw [endSt, ← HP.out, stOf, e]
      rw [Hend.out] at oH
      have sok : (endSt m).ok := stOf_ok _
      have Hdig : Hid (dig m = outArr (endSt m) 32) := by show _ = _; rw [outArr_full]; rfl
      clear Hend
      generalize endSt m = st at *
      go_upto_region 30 with fail
      go_upto_region 31 with fail
      have oO := own_new wr (Array.replicate 32 (Value.int .u8 0)) 22
      have hal := alloc_below wr (.cells (Array.replicate 32 (Value.int .u8 0)) 22)
      have oH2 := oH.alloc (.cells (Array.replicate 32 (Value.int .u8 0)) 22)
      have hB2 := hBase.below hal
      have hHO : Hb ≠ wr.heap.size := Nat.ne_of_lt oH.lt
      have hRO : w.heap.size ≠ wr.heap.size := Nat.ne_of_lt hBase.res.lt
      have hOb : w.heap.size ≤ wr.heap.size := hBase.bel.size
      generalize hw2 : wr.alloc (.cells (Array.replicate 32 (Value.int .u8 0)) 22) = w2 at *
      rw [show wr.alloc (.cells #[.int .u8 0, .int .u8 0, .int .u8 0, .int .u8 0, .int .u8 0, .int .u8 0, .int .u8 0, .int .u8 0, .int .u8 0, .int .u8 0, .int .u8 0, .int .u8 0, .int .u8 0, .int .u8 0, .int .u8 0, .int .u8 0, .int .u8 0, .int .u8 0, .int .u8 0, .int .u8 0, .int .u8 0, .int .u8 0, .int .u8 0, .int .u8 0, .int .u8 0, .int .u8 0, .int .u8 0, .int .u8 0, .int .u8 0, .int .u8 0, .int .u8 0, .int .u8 0] 22) = w2 from hw2]
      have oR2 := hB2.res
      have hb2 := hB2.bel
      clear hw2 hal oH hBase hB2
      generalize wr.heap.size = O at *
      rw [← outArr_zero st] at oO
      go_wp2_with fail
      go_loopw [20] (fun i wx => ∃ k : Nat, k ≤ 32 ∧ i = .int .i64 (k : Int) ∧ Own wx w.heap.size (Array.replicate 32 (Value.int .u8 0)) 22 ∧ Below w.heap.size w wx ∧ Own wx Hb (stArr st) 66 ∧ Own wx O (outArr st k) 22) (fun i _ => 32 - (intOf i).toNat)
      case atStart => exact ⟨0, Nat.zero_le _, rfl, oR2, hb2, oH2, oO⟩
      case round =>
        clear oR2 hb2 oH2 oO
        obtain ⟨k, hk, rfl, oR, hb, oH, oO⟩ := hrel
        by_cases hk32 : k < 32
        · have hki : (k : Int) < 32 := by omega
          have hk0 : (0 : Int) ≤ (k : Int) := by omega
          have hk4 : (k : Int) / 4 < 8 := by omega
          have hk4' : (0 : Int) ≤ (k : Int) / 4 := by omega
          have cH := oH.cell (stArr_at st (k / 4) (by omega))
          have cO := oO.cell (outArr_at st k hk32)
          have fO := oO.frozen k
          have Hby := show Hid _ from sumBytes_at st sok (k / 4) (k % 4) (by omega) (by omega)
          generalize (stWords st).getD (k / 4) 0 = x at *
          go_wp2_with fail
          have hby := Hby.out
          rw [show 4 * (k / 4) + k % 4 = k from by omega] at hby
          have hg := grown_setCell wr O k (.int .u8 (x / 2 ^ (24 - 8 * (k % 4)) % 256))
          refine ⟨⟨k + 1, by omega, by go_num, oR.grown hg hRO, belg hb hg hOb, oH.grown hg hHO, ?_⟩, by simp [intOf]; omega⟩
          rw [← outArr_step st k _ hk32 hby]
          exact oO.setCell k _
        · have hki : ¬ (k : Int) < 32 := by omega
          have hk' : k = 32 := by omega
          rw [hk', ← Hdig.out] at oO
          clear hk'
          go_upto_region 35 with fail
          generalize hD : dig m = D at *
          have hDi : (Tryz.prog.info? 22).map (·.size) = some D.size := by rw [← hD]; exact dig_info m
          have hD1 : D.all (·.oneCell') = true := by rw [← hD]; exact dig_one m
          have hDs : D.size = 32 := by rw [← hD]; exact dig_size m
          have HD := show Hid _ from hD
          clear hD
          have hfit : 0 + D.size ≤ (Array.replicate 32 (Value.int .u8 0)).size := by rw [hDs, Array.size_replicate]; decide
          have HDs := show Hid _ from hDs
          clear hDs
          go_wp2_with (first | refine wpList_load_own (by rfl) 22 (.tmp 19) (by rfl) O (by rfl) D _ oO Tryz.underlying22 (by rfl) hDi ?_ | refine wpList_store_own (by rfl) 22 (.tmp 2) (.tmp 207) (by rfl) w.heap.size 0 D (by rfl) (by rfl) oR hfit hDi hD1 (by rfl) ?_)
          refine bodyPost_ret (results_own Tryz.results22 _ _ w.heap.size D _ rfl (own_setCells oR (by rw [HDs.out, Array.size_replicate])) Tryz.underlying22 rfl hDi) rfl ⟨by rw [HD.out], ?_⟩
          exact Below.setCells _ _ _ _ (Nat.le_refl _) hb
end Go.Proofs.YtgibllaifnnfkaaGreatDoor.J
namespace Go.Proofs.YtgibllaifnnfkaaGreatDoor
open Go Go.RowKit
theorem psum256 {v : Value} {l : List Int} {k : Nat} (hk : hn l = k) (hl : l.length ≤ 1000000) (w : World) (hm : Tx w v l) :
    Calls Tryz.prog 22 #[v] w fun e w' => e = .returned (.agg (B32 (bdig k))) ∧ Below w.heap.size w w' := by
  obtain ⟨a, c, rfl, h1, h2⟩ := hm
  subst hk
  rw [← dig_hn]
  exact J.ref_any a c l w h1 h2 hl
end Go.Proofs.YtgibllaifnnfkaaGreatDoor
namespace Go.Proofs.YtgibllaifnnfkaaGreatDoor
open Go Go.RowKit
set_option maxRecDepth 100000 in
set_option maxHeartbeats 1000000 in
theorem ppub_open (n : Nat) (w : World) : Calls Tryz.prog 12 #[.int .i64 2, .agg (B32 (bdig n))] w fun x w' => x = .returned (.agg (B32 (bdig (opub n)))) ∧ Below w.heap.size w w' := by
  have hz := (zero_of_info zeroB32).1
  obtain ⟨k, Hk⟩ : ∃ k, Hid (opub n = k) := ⟨_, rfl⟩
  rw [Hk.out]
  go_enter Tryz.func12, Tryz.ntmps12
  go_upto_region 3 with fail
  have hK := ((Kp.nil w).alloc (B32 (bdig n)) 22).alloc (B32 fun _ => 0) 22
  rw [World.size_alloc] at hK
  generalize (w.alloc (.cells (B32 (bdig n)) 22)).alloc (.cells (B32 fun _ => 0) 22) = W at *
  obtain ⟨bA, HA⟩ : ∃ b, Hid (w.heap.size = b) := ⟨_, rfl⟩
  obtain ⟨bR, HR⟩ : ∃ b, Hid (bA + 1 = b) := ⟨_, rfl⟩
  have leR : w.heap.size ≤ bR := by have := HA.out; have := HR.out; omega
  have ne : Hid (bA ≠ bR) := by show _ ≠ _; have := HR.out; omega
  rw [HA.out, HR.out] at hK ⊢
  refine wp_region_ls 14 (fun L => [(bR, if L 5 = true then B32 (bdig k) else B32 fun _ => 0, 22), (bA, B32 (bdig n), 22)]) [.bs [.inr (.int .u8 1)] 5, .v (.slice (some ⟨bA, 0, none⟩) 32 32), .bs [.inl 0, .inr (.slice (some ⟨bA, 0, none⟩) 32 32)] 23, .ow (txR (1 :: by32 n)), .v (.agg (B32 (bdig k))), .o] hK (by kernel_rfl) (by kernel_rfl) (by rfl) ?_ ?_
  · exact .c (.bl Tryz.underlying23 infoE5) <| .c (.p1 3 (.pointer (some ⟨bA, 0, none⟩))) <| .c (.bl Tryz.underlying70 infoE23 (h1 := fun _ _ _ hA k hk => by
      simp at hk
      subst hk
      obtain ⟨-, g, e, -⟩ := hA.row 0
      rw [e]
      rfl)) <| .c (.co (fun vs => #[vs 2]) fun _ vs w hA => by
      obtain ⟨h0, g, e, ho⟩ := hA.row 2
      obtain ⟨-, g0, e0, ho0⟩ := hA.j.bs 0 _ _ rfl (h0 0 (.head _))
      have hr := rows_at ho (show TxL w [vs 0, _] [[1], by32 n] from ⟨by rw [e0]; exact tx_byte ho0 (by decide), tx_bytes (hA.j.kp.at bA (B32 (bdig n)) 22 (.tail _ (.head _))), trivial⟩)
      rw [e]
      exact pjoin_co (l := 1 :: by32 n) (by simp) (by simp [by32_length]) w hr) <| .c (.cj (fun vs => #[vs 3]) fun _ vs w hA => psum256 Hk.out (by simp [by32_length]) w (hA.own 3)) <| .c (.sk bR (.hr (fun _ => rfl) (fun _ => rfl) fun _ => fc ne fn) leR (B32_info _) (B32_one _)) .nil
  · intro _ V hJ _
    have hK : Kp [(bR, B32 (bdig k), 22), (bA, B32 (bdig n), 22)] w V := hJ.1
    simp only [putL, Lv.val, Act.put, List.setIfInBounds_toArray, List.set_cons_succ, List.set_cons_zero]
    go_wp2_with fail
    exact bodyPost_ret (results_own Tryz.results12 _ _ bR (B32 (bdig k)) _ (by rfl) (hK.at bR (B32 (bdig k)) 22 (.head _)) Tryz.underlying22 rfl (B32_info _)) rfl ⟨rfl, hK.2⟩
end Go.Proofs.YtgibllaifnnfkaaGreatDoor
