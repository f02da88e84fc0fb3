/- The law CborShort, over contracts. -/
import Derived.Test.YtaabcllghniaoabDoorCV
import Derived.Test.YtaabcllghniaoabDoorCS
import Derived.Laws.BitsLemmas
namespace Go.Proofs.YtaabcllghniaoabDoor
open Go Go.RowKit
theorem and_31 {c : Nat} (h : c < 256) : bits .and .u8 (c : Int) 31 = ((c % 32 : Nat) : Int) := by
  have key : ∀ c : Fin 256, bits .and .u8 (c.val : Int) 31 = ((c.val % 32 : Nat) : Int) := by decide +kernel
  exact key ⟨c, h⟩
theorem hd_small {mj n : Nat} (h : n < 24) : hd mj n = [((32 * mj + n : Nat) : Int)] := by
  rw [hd, show hlow n = n by unfold hlow; rw [if_pos h], show hsize n = 0 by unfold hsize; rw [if_pos h], be]
theorem hlow_small (n : Nat) (h : n < 24) : hlow n = n := by unfold hlow; rw [if_pos h]
theorem hlow_big {n : Nat} (h : hlow n ≤ 22) : n ≤ 22 := by
  unfold hlow at h
  repeat' split at h
  all_goals omega
theorem own_set8 {w : World} {base g n c i : Nat} {cur : Array Value} {xs : List Int} {y : Int} (hb : base ≤ g) (ho : Own w g cur 5) (hn : n = xs.length) (hc : n ≤ c) (hm : c ≤ maxLen) (hs : cur.size = c) (ht : cur.toList.take n = u8s xs) : OwnBytes (w.setCell ⟨g, i, none⟩ (.int .u8 y)) base (.slice (some ⟨g, 0, none⟩) n c) (xs.set i y) := by
  subst hn
  refine ⟨by simp [u8s], .inr ⟨g, c, cur.setIfInBounds i (.int .u8 y), by rw [List.length_set], hb, ho.setCell i _, by rw [List.length_set]; exact hc, hm, by simp [hs], ?_⟩⟩
  rw [Nat.mul_one, List.length_set, Array.toList_setIfInBounds, List.take_set, ht, u8s, u8s, List.map_set]
/-- A single byte of a row that may grow, changed. -/
theorem own_row {w : World} {base n c : Nat} {a : Option Addr} {xs : List Int} (h : OwnBytes w base (.slice a n c) xs) (hp : 0 < xs.length) : ∃ g cur, a = some ⟨g, 0, none⟩ ∧ n = xs.length ∧ base ≤ g ∧ Own w g cur 5 ∧ n ≤ c ∧ c ≤ maxLen ∧ cur.size = c ∧ cur.toList.take n = u8s xs := by
  obtain ⟨h1, ⟨e, h0⟩ | ⟨g, cp, cur, e, h3, h4, h5, h6, h7, h8⟩⟩ := h
  · omega
  · simp only [Value.slice.injEq] at e
    obtain ⟨rfl, rfl, rfl⟩ := e
    exact ⟨g, cur, rfl, rfl, h3, h4, h5, h6, by omega, by rw [← h8, Nat.mul_one]⟩
theorem first_list {k n : Int} {bb : List Int} {q : List Tk} {X : List Int} (h : enc (⟨k, n, bb⟩ :: q) = some X) (hk : k = 5 ∨ k = 6) : ∃ N : Nat, n = (N : Int) ∧ N ≤ 64 ∧ bb = [] ∧ ∃ Y, X = hd (if k = 5 then 4 else 5) N ++ Y := by
  obtain ⟨t, r, e, hg, hc⟩ := itemF_some (f := some (item 5)) (enc_some h).2.1
  obtain ⟨rfl, rfl⟩ := List.cons.inj e
  have hb := good_num hg
  have hp := good_plain hg (by show ¬ (k = 3 ∨ k = 4); omega)
  simp only at hb hp
  obtain ⟨N, rfl⟩ := Int.eq_ofNat_of_zero_le hb.1
  rcases hc with ⟨h1, -⟩ | ⟨h1, -⟩ | ⟨h1, -⟩ | ⟨h1, -⟩ | ⟨a, xs, -, -, hn, -, -, hx⟩
  · simp only at h1; omega
  · simp only at h1; omega
  · simp only at h1; omega
  · simp only at h1; omega
  · simp only [Int.toNat_natCast] at hn hx
    exact ⟨N, rfl, by omega, hp, _, hx⟩
theorem OwnToks.some {w : World} {base len cap : Nat} {a : Option Addr} {l : List Tk} (h : OwnToks w base (.slice a len cap) l) (hp : 0 < l.length) : ∃ g, a = Option.some ⟨g, 0, Option.none⟩ ∧ base ≤ g ∧ g < w.heap.size := by
  obtain ⟨vs, ⟨h1, ⟨e, h0⟩ | ⟨g', cp, cur, e, hb, ho, hc, hm, hs, ht⟩⟩, hx⟩ := h
  · omega
  · simp only [Value.slice.injEq] at e
    exact ⟨g', e.1, hb, (Array.getElem?_eq_some_iff.1 ho).1⟩
set_option maxRecDepth 100000 in
set_option maxHeartbeats 60000000 in
theorem cshort_is {T : World → Prop} (F : Cbor T) {a : Option Addr} {cap : Nat} {l : List Tk} {p : Int} {w : World} (hT : T w) (hm : Toks w a cap l) : Calls Tryd.prog 8 #[.slice a l.length cap, .int .i64 p] w fun e w' => e = .returned (.bool true) ∧ Below w.heap.size w w' := by
  have hwk := show Hid _ from cwakes F
  go_enter Tryd.func8, Tryd.ntmps8
  go_wp2_with fail
  refine (heavy_is hm).mono ?_
  rintro e w1 ⟨hS, rfl⟩
  rcases hS with rfl | ⟨rfl, hl7, hl3⟩
  · go_wp2_with fail
    go_ret
    exact ⟨rfl, Below.refl _ _⟩
  cases l with
  | nil =>
    rw [List.length_nil]
    go_wp2_with fail
    go_ret
    exact ⟨rfl, Below.refl _ _⟩
  | cons t q =>
  obtain ⟨k, n, bb⟩ := t
  obtain ⟨L, HL⟩ : ∃ L, Hid (((⟨k, n, bb⟩ : Tk) :: q).length = L) := ⟨_, rfl⟩
  have hL1 : 0 < L := by rw [← HL.out]; simp
  have hL0 : ((L : Int) == 0) = false := beq_eq_false_iff_ne.2 (by omega)
  have hL0' : (0 : Int) < (L : Int) := by omega
  have hL7 : (L : Int) ≤ 700 := by have := HL.out; omega
  have hlight : Hid (Light (⟨k, n, bb⟩ :: q)) := ⟨by omega, fun s hs => by have := hl3 s hs; omega⟩
  have hl3 := show Hid _ from hl3
  have fin : Hid (∀ w', Below w1.heap.size w1 w' → Calls Tryd.prog 11 #[] w' fun e w'' => e = .returned (.bool true) ∧ Below w1.heap.size w1 w'') := fun w' hB => (hwk.out w' (F.keep _ _ hT hB)).mono fun e w'' ⟨h1, h2⟩ => ⟨h1, hB.trans (h2.mono hB.size)⟩
  have hE := F.encode a cap _ hlight.out w1 hT hm
  rw [HL.out] at hE ⊢
  replace hE := show Hid _ from hE
  go_wp2_with fail
  refine Calls.mono (Hid.out hE) ?_
  rintro e w2 ⟨hS, hB2⟩
  clear hE
  rcases hS with ⟨hn, a2, c2, rfl, hX2⟩ | ⟨X, a2, c2, hx, rfl, hO2, hbX⟩
  · clear hn
    go_wp2_with fail
    refine (fin.out w2 hB2).mono ?_
    rintro e w3 ⟨rfl, hB3⟩
    go_wp2_with fail
    go_ret
    exact ⟨rfl, hB3⟩
  have hx := show Hid _ from hx
  obtain ⟨b0, o0, rfl, hat⟩ := (hm.below hB2).1.at (i := 0) rfl
  rw [Nat.zero_mul, Nat.add_zero] at hat
  obtain ⟨t0, t1, _, t2, htx, -⟩ := hat
  simp only at t0 t1
  by_cases hk : k = 5 ∨ k = 6
  rotate_left
  · have hk5 : (k == 5) = false := beq_eq_false_iff_ne.2 (by omega)
    have hk5' : (k != 5) = true := by rw [bne, hk5]; rfl
    have hk6 : (k == 6) = false := beq_eq_false_iff_ne.2 (by omega)
    have hk6' : (k != 6) = true := by rw [bne, hk6]; rfl
    clear hk
    go_wp2_with fail
    refine (fin.out w2 hB2).mono ?_
    rintro e w3 ⟨rfl, hB3⟩
    go_wp2_with fail
    go_ret
    exact ⟨rfl, hB3⟩
  obtain ⟨N, rfl, hN64, rfl, Y, hXY⟩ := first_list hx.out hk
  obtain ⟨mj, Hmj⟩ : ∃ mj : Nat, Hid ((if k = 5 then 4 else 5) = mj) := ⟨_, rfl⟩
  rw [Hmj.out] at hXY
  have hmj5 : mj ≤ 5 := by have := Hmj.out; split at this <;> omega
  have hlow27 := hlow_le N
  have hX0 : X.getD 0 0 = ((32 * mj + hlow N : Nat) : Int) := by rw [hXY]; rfl
  have hXp : 0 < X.length := by rw [hXY, List.length_append, hd_length]; omega
  have hXp' : ((X.length : Int) == 0) = false := beq_eq_false_iff_ne.2 (by omega)
  have hXp'' : (0 : Int) < (X.length : Int) := by omega
  have hXl := (enc_some hx.out).2.2
  replace hXY := show Hid _ from hXY
  have hX2 := (txt_same hO2 hbX).2
  obtain ⟨g2, cur2, rfl, -⟩ := own_row hO2 hXp
  obtain ⟨_, _, e2, s0⟩ := hX2.1.at 0 hXp
  cases e2
  rw [Nat.add_zero, hX0] at s0
  have hand : bits .and .u8 ((32 * mj + hlow N : Nat) : Int) 31 = (hlow N : Int) := by rw [and_31 (by omega)]; congr 1; omega
  obtain ⟨c, Hc⟩ : ∃ c, Hid (32 * mj + hlow N = c) := ⟨_, rfl⟩
  rw [Hc.out] at s0 hand hX0
  have hk5 : (k != 5) = true ∨ (k != 5) = false := by cases (k != 5) <;> simp
  have hkk : ((k != 5) = false) ∨ ((k != 5) = true ∧ (k != 6) = false) := by
    rcases hk with rfl | rfl
    · exact .inl rfl
    · exact .inr ⟨rfl, rfl⟩
  by_cases hbig : 22 < hlow N
  · have hbig' : (22 : Int) < (hlow N : Int) := by omega
    rcases hkk with h5 | ⟨h5, h6⟩
    · go_wp2_with fail
      refine (fin.out w2 hB2).mono ?_
      rintro e w3 ⟨rfl, hB3⟩
      go_wp2_with fail
      go_ret
      exact ⟨rfl, hB3⟩
    · go_wp2_with fail
      refine (fin.out w2 hB2).mono ?_
      rintro e w3 ⟨rfl, hB3⟩
      go_wp2_with fail
      go_ret
      exact ⟨rfl, hB3⟩
  have hbig' : ¬ (22 : Int) < (hlow N : Int) := by omega
  have hN22 : N ≤ 22 := hlow_big (by omega)
  have htw := twintoks_is (hm.below hB2) (by have := HL.out; omega) (fun s hs => by have := hl3.out s hs; omega)
  rw [HL.out] at htw
  replace htw := show Hid _ from htw
  rcases hkk with h5 | ⟨h5, h6⟩
  · skip
    go_wp2_with fail
    refine Calls.mono (Hid.out htw) ?_
    rintro e w3 ⟨a3, c3, rfl, hO3, hb3⟩
    have hB3 := hB2.trans (hb3.mono hB2.size)
    obtain ⟨g3, rfl, hg3a, hg3b⟩ := hO3.some (by simp)
    have htn := show Hid _ from twin_is (hX2.below hb3) (by omega)
    go_wp2_with fail
    refine Calls.mono (Hid.out htn) ?_
    rintro e w4 ⟨a4, c4, rfl, hO4, hX4, hb4⟩
    have hB4 := hB3.trans (hb4.mono hB3.size)
    have hO3w : Hid (OwnToks w3 w2.heap.size (.slice (some ⟨g3, 0, none⟩) L c3) (⟨k, (N : Int), []⟩ :: q)) := hO3
    have hO3 := hO3.below hb4
    obtain ⟨g4, cur4, rfl, -, hg4, hA4, hc4, hm4, hs4, ht4⟩ := own_row hO4 hXp
    obtain ⟨cur3, hA3, -⟩ := hO3.row
    obtain ⟨ax, cx, ex, hT3⟩ := hO3.form
    simp only [Value.slice.injEq] at ex
    obtain ⟨rfl, -, rfl⟩ := ex
    obtain ⟨_, _, e3, hat3⟩ := hT3.1.at (i := 0) rfl
    cases e3
    rw [Nat.zero_mul, Nat.add_zero] at hat3
    obtain ⟨x0, x1, _, x2, -, -⟩ := hat3
    simp only [Nat.zero_add] at x0 x1 x2
    obtain ⟨_, _, e4, s4⟩ := hX4.1.at 0 hXp
    cases e4
    rw [Nat.add_zero, hX0] at s4
    have f3 := hA3.frozen 1
    have f4 := hA4.frozen 0
    clear htw htn t0 t1 t2 s0
    obtain ⟨z, Hz⟩ : ∃ z, p.tmod 2 = z := ⟨_, rfl⟩
    have hz : (z == 0) = true ∨ (z == 0) = false := by cases (z == 0) <;> simp
    have hzb : -2 < z ∧ z < 2 := by have := Int.tmod_lt_of_pos p (show (0 : Int) < 2 by decide); have := Int.lt_tmod_of_pos p (show (0 : Int) < 2 by decide); omega
    obtain ⟨hz1, hz2⟩ := hzb
    by_cases hN0 : (0 : Int) < (N : Int)
    · rcases hz with hz | hz
      · as_aux_lemma =>
        go_wp2_with fail
        obtain ⟨M, HM⟩ : ∃ M : Nat, Hid (N - 1 = M) := ⟨_, rfl⟩
        have hM : Hid (M < 24) := by show _ < _; have := HM.out; omega
        have hMN : Hid (((M : Nat) : Int) ≠ (N : Int)) := by show _ ≠ _; have := HM.out; omega
        have hst : (N : Int) - 1 = ((M : Nat) : Int) := by have := HM.out; omega
        have hby : ((c : Int) - 1) % 256 = ((32 * mj + M : Nat) : Int) := by have := HM.out; have := Hc.out; have := hlow_small N (by omega); omega
        rw [hst, hby]
        have hgg : g3 ≠ g4 := by omega
        have hcN : Hid (hlow N = N) := hlow_small N (by omega)
        obtain ⟨Y', hX', hdn⟩ := dec_other (n := M) hx.out hk hMN.out hM.out (by show (N : Int) < 24; omega)
        simp only [Int.toNat_natCast] at hX'
        rw [Hmj.out] at hX' hdn
        have hset : Hid (X.set 0 ((32 * mj + M : Nat) : Int) = hd mj M ++ Y') := by show _ = _; rw [hX', hd_small (by omega), hd_small hM.out]; rfl
        have hd' := show Hid _ from hdn
        have hen : Hid (enc (⟨k, ((M : Nat) : Int), []⟩ :: q) = none) := enc_other hx.out hk hMN.out (by omega)
        have hO5 := own_set8 (i := 0) (y := ((32 * mj + M : Nat) : Int)) hg4 (hA4.setCell_other (p := ⟨g3, 1, none⟩) hgg (.int .i64 ((M : Nat) : Int))) rfl hc4 hm4 hs4 ht4
        rw [hset.out] at hO5
        have hbz : Bys (hd mj M ++ Y') := by
          rw [← hset.out]
          intro z hz
          rcases List.mem_or_eq_of_mem_set hz with h | h
          · exact hbX z h
          · subst h; have := hM.out; omega
        have hX5 := (txt_same hO5 hbz).2
        have hxl5 : Hid (X.length = (hd mj M ++ Y').length) := by show _ = _; rw [← hset.out, List.length_set]
        have hB5 : Below w1.heap.size w1 ((w4.setCell ⟨g3, 1, none⟩ (.int .i64 ((M : Nat) : Int))).setCell ⟨g4, 0, none⟩ (.int .u8 ((32 * mj + M : Nat) : Int))) := by
          have h1 := below_grown hB4 (grown_setCell w4 g3 1 (.int .i64 ((M : Nat) : Int))) hB4.size (Nat.le_trans hB2.size hg3a)
          exact below_grown h1 (grown_setCell _ g4 0 (.int .u8 ((32 * mj + M : Nat) : Int))) h1.size (Nat.le_trans hB3.size hg4)
        have hO6 := OwnToks.setN (show OwnToks _ _ _ _ from hO3w.out) (i := 0) (t := ⟨k, (N : Int), []⟩) (w' := (w4.setCell ⟨g3, 1, none⟩ (.int .i64 ((M : Nat) : Int))).setCell ⟨g4, 0, none⟩ (.int .u8 ((32 * mj + M : Nat) : Int))) rfl (n := ((M : Nat) : Int)) (by omega) (by have := hM.out; omega)
          (fun cur ho => ((ho.below hb4 ho.lt).setCell 1 (.int .i64 ((M : Nat) : Int))).setCell_other (p := ⟨g4, 0, none⟩) hgg.symm _)
          (fun b hb hne => by
            rw [(grown_setCell (w4.setCell ⟨g3, 1, none⟩ (.int .i64 ((M : Nat) : Int))) g4 0 (.int .u8 ((32 * mj + M : Nat) : Int))).block b (by simp only [World.size_setCell]; exact Nat.lt_of_lt_of_le hb hb4.size) (by simp; omega), (grown_setCell w4 g3 1 (.int .i64 ((M : Nat) : Int))).block b (Nat.lt_of_lt_of_le hb hb4.size) (by simpa using hne), hb4.block b hb])
        have hset6 : (((⟨k, (N : Int), []⟩ : Tk) :: q).set 0 ⟨k, ((M : Nat) : Int), []⟩) = ⟨k, ((M : Nat) : Int), []⟩ :: q := rfl
        rw [hset6] at hO6
        generalize (w4.setCell ⟨g3, 1, none⟩ (.int .i64 ((M : Nat) : Int))).setCell ⟨g4, 0, none⟩ (.int .u8 ((32 * mj + M : Nat) : Int)) = w5 at hO5 hX5 hB5 hO6 ⊢
        obtain ⟨ay, cy, ey, hT6⟩ := hO6.form
        simp only [Value.slice.injEq] at ey
        obtain ⟨rfl, hL6, rfl⟩ := ey
        have hdc := F.decode (some ⟨g4, 0, none⟩) c4 (hd mj M ++ Y') (by rw [← hxl5.out]; omega) w5 (F.keep _ _ hT hB5) hX5
        rw [← hxl5.out] at hdc
        replace hdc := show Hid _ from hdc
        have hck := F.check (some ⟨g3, 0, none⟩) c3 (⟨k, ((M : Nat) : Int), []⟩ :: q) ⟨by have := hlight.out.1; simpa using this, fun s hs => by
          rcases List.mem_cons.1 hs with rfl | h
          · simp
          · exact hlight.out.2 s (.tail _ h)⟩
        rw [← hL6] at hck
        replace hck := show Hid _ from hck
        clear hset6 hO5 hX5 hO6 hbz hL6 hX' hdn
        refine Calls.mono (Hid.out hdc) ?_
        rintro e w6 ⟨⟨-, a6, c6, rfl, -⟩ | ⟨_, _, _, e1, -⟩, hb6⟩
        rotate_left
        · rw [hd'.out] at e1; cases e1
        have hB6 := hB5.trans (hb6.mono hB5.size)
        have hT7 := hT6.below hb6
        go_wp2_with fail
        refine (hck.out w6 (F.keep _ _ hT hB6) hT7).mono ?_
        rintro e w7 ⟨rfl, hb7⟩
        rw [hen.out]
        simp only [Option.isSome_none, Bool.false_eq_true, if_false]
        have hB7 := hB6.trans (hb7.mono hB6.size)
        go_wp2_with fail
        refine (fin.out w7 hB7).mono ?_
        rintro e w8 ⟨rfl, hB8⟩
        go_wp2_with fail
        go_ret
        exact ⟨rfl, hB8⟩
      · as_aux_lemma =>
        go_wp2_with fail
        obtain ⟨M, HM⟩ : ∃ M : Nat, Hid (N + 1 = M) := ⟨_, rfl⟩
        have hM : Hid (M < 24) := by show _ < _; have := HM.out; omega
        have hMN : Hid (((M : Nat) : Int) ≠ (N : Int)) := by show _ ≠ _; have := HM.out; omega
        have hst : (N : Int) + 1 = ((M : Nat) : Int) := by have := HM.out; omega
        have hby : ((c : Int) + 1) % 256 = ((32 * mj + M : Nat) : Int) := by have := HM.out; have := Hc.out; have := hlow_small N (by omega); omega
        rw [hst, hby]
        have hgg : g3 ≠ g4 := by omega
        have hcN : Hid (hlow N = N) := hlow_small N (by omega)
        obtain ⟨Y', hX', hdn⟩ := dec_other (n := M) hx.out hk hMN.out hM.out (by show (N : Int) < 24; omega)
        simp only [Int.toNat_natCast] at hX'
        rw [Hmj.out] at hX' hdn
        have hset : Hid (X.set 0 ((32 * mj + M : Nat) : Int) = hd mj M ++ Y') := by show _ = _; rw [hX', hd_small (by omega), hd_small hM.out]; rfl
        have hd' := show Hid _ from hdn
        have hen : Hid (enc (⟨k, ((M : Nat) : Int), []⟩ :: q) = none) := enc_other hx.out hk hMN.out (by omega)
        have hO5 := own_set8 (i := 0) (y := ((32 * mj + M : Nat) : Int)) hg4 (hA4.setCell_other (p := ⟨g3, 1, none⟩) hgg (.int .i64 ((M : Nat) : Int))) rfl hc4 hm4 hs4 ht4
        rw [hset.out] at hO5
        have hbz : Bys (hd mj M ++ Y') := by
          rw [← hset.out]
          intro z hz
          rcases List.mem_or_eq_of_mem_set hz with h | h
          · exact hbX z h
          · subst h; have := hM.out; omega
        have hX5 := (txt_same hO5 hbz).2
        have hxl5 : Hid (X.length = (hd mj M ++ Y').length) := by show _ = _; rw [← hset.out, List.length_set]
        have hB5 : Below w1.heap.size w1 ((w4.setCell ⟨g3, 1, none⟩ (.int .i64 ((M : Nat) : Int))).setCell ⟨g4, 0, none⟩ (.int .u8 ((32 * mj + M : Nat) : Int))) := by
          have h1 := below_grown hB4 (grown_setCell w4 g3 1 (.int .i64 ((M : Nat) : Int))) hB4.size (Nat.le_trans hB2.size hg3a)
          exact below_grown h1 (grown_setCell _ g4 0 (.int .u8 ((32 * mj + M : Nat) : Int))) h1.size (Nat.le_trans hB3.size hg4)
        have hO6 := OwnToks.setN (show OwnToks _ _ _ _ from hO3w.out) (i := 0) (t := ⟨k, (N : Int), []⟩) (w' := (w4.setCell ⟨g3, 1, none⟩ (.int .i64 ((M : Nat) : Int))).setCell ⟨g4, 0, none⟩ (.int .u8 ((32 * mj + M : Nat) : Int))) rfl (n := ((M : Nat) : Int)) (by omega) (by have := hM.out; omega)
          (fun cur ho => ((ho.below hb4 ho.lt).setCell 1 (.int .i64 ((M : Nat) : Int))).setCell_other (p := ⟨g4, 0, none⟩) hgg.symm _)
          (fun b hb hne => by
            rw [(grown_setCell (w4.setCell ⟨g3, 1, none⟩ (.int .i64 ((M : Nat) : Int))) g4 0 (.int .u8 ((32 * mj + M : Nat) : Int))).block b (by simp only [World.size_setCell]; exact Nat.lt_of_lt_of_le hb hb4.size) (by simp; omega), (grown_setCell w4 g3 1 (.int .i64 ((M : Nat) : Int))).block b (Nat.lt_of_lt_of_le hb hb4.size) (by simpa using hne), hb4.block b hb])
        have hset6 : (((⟨k, (N : Int), []⟩ : Tk) :: q).set 0 ⟨k, ((M : Nat) : Int), []⟩) = ⟨k, ((M : Nat) : Int), []⟩ :: q := rfl
        rw [hset6] at hO6
        generalize (w4.setCell ⟨g3, 1, none⟩ (.int .i64 ((M : Nat) : Int))).setCell ⟨g4, 0, none⟩ (.int .u8 ((32 * mj + M : Nat) : Int)) = w5 at hO5 hX5 hB5 hO6 ⊢
        obtain ⟨ay, cy, ey, hT6⟩ := hO6.form
        simp only [Value.slice.injEq] at ey
        obtain ⟨rfl, hL6, rfl⟩ := ey
        have hdc := F.decode (some ⟨g4, 0, none⟩) c4 (hd mj M ++ Y') (by rw [← hxl5.out]; omega) w5 (F.keep _ _ hT hB5) hX5
        rw [← hxl5.out] at hdc
        replace hdc := show Hid _ from hdc
        have hck := F.check (some ⟨g3, 0, none⟩) c3 (⟨k, ((M : Nat) : Int), []⟩ :: q) ⟨by have := hlight.out.1; simpa using this, fun s hs => by
          rcases List.mem_cons.1 hs with rfl | h
          · simp
          · exact hlight.out.2 s (.tail _ h)⟩
        rw [← hL6] at hck
        replace hck := show Hid _ from hck
        clear hset6 hO5 hX5 hO6 hbz hL6 hX' hdn
        refine Calls.mono (Hid.out hdc) ?_
        rintro e w6 ⟨⟨-, a6, c6, rfl, -⟩ | ⟨_, _, _, e1, -⟩, hb6⟩
        rotate_left
        · rw [hd'.out] at e1; cases e1
        have hB6 := hB5.trans (hb6.mono hB5.size)
        have hT7 := hT6.below hb6
        go_wp2_with fail
        refine (hck.out w6 (F.keep _ _ hT hB6) hT7).mono ?_
        rintro e w7 ⟨rfl, hb7⟩
        rw [hen.out]
        simp only [Option.isSome_none, Bool.false_eq_true, if_false]
        have hB7 := hB6.trans (hb7.mono hB6.size)
        go_wp2_with fail
        refine (fin.out w7 hB7).mono ?_
        rintro e w8 ⟨rfl, hB8⟩
        go_wp2_with fail
        go_ret
        exact ⟨rfl, hB8⟩
    · rcases hz with hz | hz
      · as_aux_lemma =>
        go_wp2_with fail
        obtain ⟨M, HM⟩ : ∃ M : Nat, Hid (N + 1 = M) := ⟨_, rfl⟩
        have hM : Hid (M < 24) := by show _ < _; have := HM.out; omega
        have hMN : Hid (((M : Nat) : Int) ≠ (N : Int)) := by show _ ≠ _; have := HM.out; omega
        have hst : (N : Int) + 1 = ((M : Nat) : Int) := by have := HM.out; omega
        have hby : ((c : Int) + 1) % 256 = ((32 * mj + M : Nat) : Int) := by have := HM.out; have := Hc.out; have := hlow_small N (by omega); omega
        rw [hst, hby]
        have hgg : g3 ≠ g4 := by omega
        have hcN : Hid (hlow N = N) := hlow_small N (by omega)
        obtain ⟨Y', hX', hdn⟩ := dec_other (n := M) hx.out hk hMN.out hM.out (by show (N : Int) < 24; omega)
        simp only [Int.toNat_natCast] at hX'
        rw [Hmj.out] at hX' hdn
        have hset : Hid (X.set 0 ((32 * mj + M : Nat) : Int) = hd mj M ++ Y') := by show _ = _; rw [hX', hd_small (by omega), hd_small hM.out]; rfl
        have hd' := show Hid _ from hdn
        have hen : Hid (enc (⟨k, ((M : Nat) : Int), []⟩ :: q) = none) := enc_other hx.out hk hMN.out (by omega)
        have hO5 := own_set8 (i := 0) (y := ((32 * mj + M : Nat) : Int)) hg4 (hA4.setCell_other (p := ⟨g3, 1, none⟩) hgg (.int .i64 ((M : Nat) : Int))) rfl hc4 hm4 hs4 ht4
        rw [hset.out] at hO5
        have hbz : Bys (hd mj M ++ Y') := by
          rw [← hset.out]
          intro z hz
          rcases List.mem_or_eq_of_mem_set hz with h | h
          · exact hbX z h
          · subst h; have := hM.out; omega
        have hX5 := (txt_same hO5 hbz).2
        have hxl5 : Hid (X.length = (hd mj M ++ Y').length) := by show _ = _; rw [← hset.out, List.length_set]
        have hB5 : Below w1.heap.size w1 ((w4.setCell ⟨g3, 1, none⟩ (.int .i64 ((M : Nat) : Int))).setCell ⟨g4, 0, none⟩ (.int .u8 ((32 * mj + M : Nat) : Int))) := by
          have h1 := below_grown hB4 (grown_setCell w4 g3 1 (.int .i64 ((M : Nat) : Int))) hB4.size (Nat.le_trans hB2.size hg3a)
          exact below_grown h1 (grown_setCell _ g4 0 (.int .u8 ((32 * mj + M : Nat) : Int))) h1.size (Nat.le_trans hB3.size hg4)
        have hO6 := OwnToks.setN (show OwnToks _ _ _ _ from hO3w.out) (i := 0) (t := ⟨k, (N : Int), []⟩) (w' := (w4.setCell ⟨g3, 1, none⟩ (.int .i64 ((M : Nat) : Int))).setCell ⟨g4, 0, none⟩ (.int .u8 ((32 * mj + M : Nat) : Int))) rfl (n := ((M : Nat) : Int)) (by omega) (by have := hM.out; omega)
          (fun cur ho => ((ho.below hb4 ho.lt).setCell 1 (.int .i64 ((M : Nat) : Int))).setCell_other (p := ⟨g4, 0, none⟩) hgg.symm _)
          (fun b hb hne => by
            rw [(grown_setCell (w4.setCell ⟨g3, 1, none⟩ (.int .i64 ((M : Nat) : Int))) g4 0 (.int .u8 ((32 * mj + M : Nat) : Int))).block b (by simp only [World.size_setCell]; exact Nat.lt_of_lt_of_le hb hb4.size) (by simp; omega), (grown_setCell w4 g3 1 (.int .i64 ((M : Nat) : Int))).block b (Nat.lt_of_lt_of_le hb hb4.size) (by simpa using hne), hb4.block b hb])
        have hset6 : (((⟨k, (N : Int), []⟩ : Tk) :: q).set 0 ⟨k, ((M : Nat) : Int), []⟩) = ⟨k, ((M : Nat) : Int), []⟩ :: q := rfl
        rw [hset6] at hO6
        generalize (w4.setCell ⟨g3, 1, none⟩ (.int .i64 ((M : Nat) : Int))).setCell ⟨g4, 0, none⟩ (.int .u8 ((32 * mj + M : Nat) : Int)) = w5 at hO5 hX5 hB5 hO6 ⊢
        obtain ⟨ay, cy, ey, hT6⟩ := hO6.form
        simp only [Value.slice.injEq] at ey
        obtain ⟨rfl, hL6, rfl⟩ := ey
        have hdc := F.decode (some ⟨g4, 0, none⟩) c4 (hd mj M ++ Y') (by rw [← hxl5.out]; omega) w5 (F.keep _ _ hT hB5) hX5
        rw [← hxl5.out] at hdc
        replace hdc := show Hid _ from hdc
        have hck := F.check (some ⟨g3, 0, none⟩) c3 (⟨k, ((M : Nat) : Int), []⟩ :: q) ⟨by have := hlight.out.1; simpa using this, fun s hs => by
          rcases List.mem_cons.1 hs with rfl | h
          · simp
          · exact hlight.out.2 s (.tail _ h)⟩
        rw [← hL6] at hck
        replace hck := show Hid _ from hck
        clear hset6 hO5 hX5 hO6 hbz hL6 hX' hdn
        refine Calls.mono (Hid.out hdc) ?_
        rintro e w6 ⟨⟨-, a6, c6, rfl, -⟩ | ⟨_, _, _, e1, -⟩, hb6⟩
        rotate_left
        · rw [hd'.out] at e1; cases e1
        have hB6 := hB5.trans (hb6.mono hB5.size)
        have hT7 := hT6.below hb6
        go_wp2_with fail
        refine (hck.out w6 (F.keep _ _ hT hB6) hT7).mono ?_
        rintro e w7 ⟨rfl, hb7⟩
        rw [hen.out]
        simp only [Option.isSome_none, Bool.false_eq_true, if_false]
        have hB7 := hB6.trans (hb7.mono hB6.size)
        go_wp2_with fail
        refine (fin.out w7 hB7).mono ?_
        rintro e w8 ⟨rfl, hB8⟩
        go_wp2_with fail
        go_ret
        exact ⟨rfl, hB8⟩
      · as_aux_lemma =>
        go_wp2_with fail
        obtain ⟨M, HM⟩ : ∃ M : Nat, Hid (N + 1 = M) := ⟨_, rfl⟩
        have hM : Hid (M < 24) := by show _ < _; have := HM.out; omega
        have hMN : Hid (((M : Nat) : Int) ≠ (N : Int)) := by show _ ≠ _; have := HM.out; omega
        have hst : (N : Int) + 1 = ((M : Nat) : Int) := by have := HM.out; omega
        have hby : ((c : Int) + 1) % 256 = ((32 * mj + M : Nat) : Int) := by have := HM.out; have := Hc.out; have := hlow_small N (by omega); omega
        rw [hst, hby]
        have hgg : g3 ≠ g4 := by omega
        have hcN : Hid (hlow N = N) := hlow_small N (by omega)
        obtain ⟨Y', hX', hdn⟩ := dec_other (n := M) hx.out hk hMN.out hM.out (by show (N : Int) < 24; omega)
        simp only [Int.toNat_natCast] at hX'
        rw [Hmj.out] at hX' hdn
        have hset : Hid (X.set 0 ((32 * mj + M : Nat) : Int) = hd mj M ++ Y') := by show _ = _; rw [hX', hd_small (by omega), hd_small hM.out]; rfl
        have hd' := show Hid _ from hdn
        have hen : Hid (enc (⟨k, ((M : Nat) : Int), []⟩ :: q) = none) := enc_other hx.out hk hMN.out (by omega)
        have hO5 := own_set8 (i := 0) (y := ((32 * mj + M : Nat) : Int)) hg4 (hA4.setCell_other (p := ⟨g3, 1, none⟩) hgg (.int .i64 ((M : Nat) : Int))) rfl hc4 hm4 hs4 ht4
        rw [hset.out] at hO5
        have hbz : Bys (hd mj M ++ Y') := by
          rw [← hset.out]
          intro z hz
          rcases List.mem_or_eq_of_mem_set hz with h | h
          · exact hbX z h
          · subst h; have := hM.out; omega
        have hX5 := (txt_same hO5 hbz).2
        have hxl5 : Hid (X.length = (hd mj M ++ Y').length) := by show _ = _; rw [← hset.out, List.length_set]
        have hB5 : Below w1.heap.size w1 ((w4.setCell ⟨g3, 1, none⟩ (.int .i64 ((M : Nat) : Int))).setCell ⟨g4, 0, none⟩ (.int .u8 ((32 * mj + M : Nat) : Int))) := by
          have h1 := below_grown hB4 (grown_setCell w4 g3 1 (.int .i64 ((M : Nat) : Int))) hB4.size (Nat.le_trans hB2.size hg3a)
          exact below_grown h1 (grown_setCell _ g4 0 (.int .u8 ((32 * mj + M : Nat) : Int))) h1.size (Nat.le_trans hB3.size hg4)
        have hO6 := OwnToks.setN (show OwnToks _ _ _ _ from hO3w.out) (i := 0) (t := ⟨k, (N : Int), []⟩) (w' := (w4.setCell ⟨g3, 1, none⟩ (.int .i64 ((M : Nat) : Int))).setCell ⟨g4, 0, none⟩ (.int .u8 ((32 * mj + M : Nat) : Int))) rfl (n := ((M : Nat) : Int)) (by omega) (by have := hM.out; omega)
          (fun cur ho => ((ho.below hb4 ho.lt).setCell 1 (.int .i64 ((M : Nat) : Int))).setCell_other (p := ⟨g4, 0, none⟩) hgg.symm _)
          (fun b hb hne => by
            rw [(grown_setCell (w4.setCell ⟨g3, 1, none⟩ (.int .i64 ((M : Nat) : Int))) g4 0 (.int .u8 ((32 * mj + M : Nat) : Int))).block b (by simp only [World.size_setCell]; exact Nat.lt_of_lt_of_le hb hb4.size) (by simp; omega), (grown_setCell w4 g3 1 (.int .i64 ((M : Nat) : Int))).block b (Nat.lt_of_lt_of_le hb hb4.size) (by simpa using hne), hb4.block b hb])
        have hset6 : (((⟨k, (N : Int), []⟩ : Tk) :: q).set 0 ⟨k, ((M : Nat) : Int), []⟩) = ⟨k, ((M : Nat) : Int), []⟩ :: q := rfl
        rw [hset6] at hO6
        generalize (w4.setCell ⟨g3, 1, none⟩ (.int .i64 ((M : Nat) : Int))).setCell ⟨g4, 0, none⟩ (.int .u8 ((32 * mj + M : Nat) : Int)) = w5 at hO5 hX5 hB5 hO6 ⊢
        obtain ⟨ay, cy, ey, hT6⟩ := hO6.form
        simp only [Value.slice.injEq] at ey
        obtain ⟨rfl, hL6, rfl⟩ := ey
        have hdc := F.decode (some ⟨g4, 0, none⟩) c4 (hd mj M ++ Y') (by rw [← hxl5.out]; omega) w5 (F.keep _ _ hT hB5) hX5
        rw [← hxl5.out] at hdc
        replace hdc := show Hid _ from hdc
        have hck := F.check (some ⟨g3, 0, none⟩) c3 (⟨k, ((M : Nat) : Int), []⟩ :: q) ⟨by have := hlight.out.1; simpa using this, fun s hs => by
          rcases List.mem_cons.1 hs with rfl | h
          · simp
          · exact hlight.out.2 s (.tail _ h)⟩
        rw [← hL6] at hck
        replace hck := show Hid _ from hck
        clear hset6 hO5 hX5 hO6 hbz hL6 hX' hdn
        refine Calls.mono (Hid.out hdc) ?_
        rintro e w6 ⟨⟨-, a6, c6, rfl, -⟩ | ⟨_, _, _, e1, -⟩, hb6⟩
        rotate_left
        · rw [hd'.out] at e1; cases e1
        have hB6 := hB5.trans (hb6.mono hB5.size)
        have hT7 := hT6.below hb6
        go_wp2_with fail
        refine (hck.out w6 (F.keep _ _ hT hB6) hT7).mono ?_
        rintro e w7 ⟨rfl, hb7⟩
        rw [hen.out]
        simp only [Option.isSome_none, Bool.false_eq_true, if_false]
        have hB7 := hB6.trans (hb7.mono hB6.size)
        go_wp2_with fail
        refine (fin.out w7 hB7).mono ?_
        rintro e w8 ⟨rfl, hB8⟩
        go_wp2_with fail
        go_ret
        exact ⟨rfl, hB8⟩
  · skip
    go_wp2_with fail
    refine Calls.mono (Hid.out htw) ?_
    rintro e w3 ⟨a3, c3, rfl, hO3, hb3⟩
    have hB3 := hB2.trans (hb3.mono hB2.size)
    obtain ⟨g3, rfl, hg3a, hg3b⟩ := hO3.some (by simp)
    have htn := show Hid _ from twin_is (hX2.below hb3) (by omega)
    go_wp2_with fail
    refine Calls.mono (Hid.out htn) ?_
    rintro e w4 ⟨a4, c4, rfl, hO4, hX4, hb4⟩
    have hB4 := hB3.trans (hb4.mono hB3.size)
    have hO3w : Hid (OwnToks w3 w2.heap.size (.slice (some ⟨g3, 0, none⟩) L c3) (⟨k, (N : Int), []⟩ :: q)) := hO3
    have hO3 := hO3.below hb4
    obtain ⟨g4, cur4, rfl, -, hg4, hA4, hc4, hm4, hs4, ht4⟩ := own_row hO4 hXp
    obtain ⟨cur3, hA3, -⟩ := hO3.row
    obtain ⟨ax, cx, ex, hT3⟩ := hO3.form
    simp only [Value.slice.injEq] at ex
    obtain ⟨rfl, -, rfl⟩ := ex
    obtain ⟨_, _, e3, hat3⟩ := hT3.1.at (i := 0) rfl
    cases e3
    rw [Nat.zero_mul, Nat.add_zero] at hat3
    obtain ⟨x0, x1, _, x2, -, -⟩ := hat3
    simp only [Nat.zero_add] at x0 x1 x2
    obtain ⟨_, _, e4, s4⟩ := hX4.1.at 0 hXp
    cases e4
    rw [Nat.add_zero, hX0] at s4
    have f3 := hA3.frozen 1
    have f4 := hA4.frozen 0
    clear htw htn t0 t1 t2 s0
    obtain ⟨z, Hz⟩ : ∃ z, p.tmod 2 = z := ⟨_, rfl⟩
    have hz : (z == 0) = true ∨ (z == 0) = false := by cases (z == 0) <;> simp
    have hzb : -2 < z ∧ z < 2 := by have := Int.tmod_lt_of_pos p (show (0 : Int) < 2 by decide); have := Int.lt_tmod_of_pos p (show (0 : Int) < 2 by decide); omega
    obtain ⟨hz1, hz2⟩ := hzb
    by_cases hN0 : (0 : Int) < (N : Int)
    · rcases hz with hz | hz
      · as_aux_lemma =>
        go_wp2_with fail
        obtain ⟨M, HM⟩ : ∃ M : Nat, Hid (N - 1 = M) := ⟨_, rfl⟩
        have hM : Hid (M < 24) := by show _ < _; have := HM.out; omega
        have hMN : Hid (((M : Nat) : Int) ≠ (N : Int)) := by show _ ≠ _; have := HM.out; omega
        have hst : (N : Int) - 1 = ((M : Nat) : Int) := by have := HM.out; omega
        have hby : ((c : Int) - 1) % 256 = ((32 * mj + M : Nat) : Int) := by have := HM.out; have := Hc.out; have := hlow_small N (by omega); omega
        rw [hst, hby]
        have hgg : g3 ≠ g4 := by omega
        have hcN : Hid (hlow N = N) := hlow_small N (by omega)
        obtain ⟨Y', hX', hdn⟩ := dec_other (n := M) hx.out hk hMN.out hM.out (by show (N : Int) < 24; omega)
        simp only [Int.toNat_natCast] at hX'
        rw [Hmj.out] at hX' hdn
        have hset : Hid (X.set 0 ((32 * mj + M : Nat) : Int) = hd mj M ++ Y') := by show _ = _; rw [hX', hd_small (by omega), hd_small hM.out]; rfl
        have hd' := show Hid _ from hdn
        have hen : Hid (enc (⟨k, ((M : Nat) : Int), []⟩ :: q) = none) := enc_other hx.out hk hMN.out (by omega)
        have hO5 := own_set8 (i := 0) (y := ((32 * mj + M : Nat) : Int)) hg4 (hA4.setCell_other (p := ⟨g3, 1, none⟩) hgg (.int .i64 ((M : Nat) : Int))) rfl hc4 hm4 hs4 ht4
        rw [hset.out] at hO5
        have hbz : Bys (hd mj M ++ Y') := by
          rw [← hset.out]
          intro z hz
          rcases List.mem_or_eq_of_mem_set hz with h | h
          · exact hbX z h
          · subst h; have := hM.out; omega
        have hX5 := (txt_same hO5 hbz).2
        have hxl5 : Hid (X.length = (hd mj M ++ Y').length) := by show _ = _; rw [← hset.out, List.length_set]
        have hB5 : Below w1.heap.size w1 ((w4.setCell ⟨g3, 1, none⟩ (.int .i64 ((M : Nat) : Int))).setCell ⟨g4, 0, none⟩ (.int .u8 ((32 * mj + M : Nat) : Int))) := by
          have h1 := below_grown hB4 (grown_setCell w4 g3 1 (.int .i64 ((M : Nat) : Int))) hB4.size (Nat.le_trans hB2.size hg3a)
          exact below_grown h1 (grown_setCell _ g4 0 (.int .u8 ((32 * mj + M : Nat) : Int))) h1.size (Nat.le_trans hB3.size hg4)
        have hO6 := OwnToks.setN (show OwnToks _ _ _ _ from hO3w.out) (i := 0) (t := ⟨k, (N : Int), []⟩) (w' := (w4.setCell ⟨g3, 1, none⟩ (.int .i64 ((M : Nat) : Int))).setCell ⟨g4, 0, none⟩ (.int .u8 ((32 * mj + M : Nat) : Int))) rfl (n := ((M : Nat) : Int)) (by omega) (by have := hM.out; omega)
          (fun cur ho => ((ho.below hb4 ho.lt).setCell 1 (.int .i64 ((M : Nat) : Int))).setCell_other (p := ⟨g4, 0, none⟩) hgg.symm _)
          (fun b hb hne => by
            rw [(grown_setCell (w4.setCell ⟨g3, 1, none⟩ (.int .i64 ((M : Nat) : Int))) g4 0 (.int .u8 ((32 * mj + M : Nat) : Int))).block b (by simp only [World.size_setCell]; exact Nat.lt_of_lt_of_le hb hb4.size) (by simp; omega), (grown_setCell w4 g3 1 (.int .i64 ((M : Nat) : Int))).block b (Nat.lt_of_lt_of_le hb hb4.size) (by simpa using hne), hb4.block b hb])
        have hset6 : (((⟨k, (N : Int), []⟩ : Tk) :: q).set 0 ⟨k, ((M : Nat) : Int), []⟩) = ⟨k, ((M : Nat) : Int), []⟩ :: q := rfl
        rw [hset6] at hO6
        generalize (w4.setCell ⟨g3, 1, none⟩ (.int .i64 ((M : Nat) : Int))).setCell ⟨g4, 0, none⟩ (.int .u8 ((32 * mj + M : Nat) : Int)) = w5 at hO5 hX5 hB5 hO6 ⊢
        obtain ⟨ay, cy, ey, hT6⟩ := hO6.form
        simp only [Value.slice.injEq] at ey
        obtain ⟨rfl, hL6, rfl⟩ := ey
        have hdc := F.decode (some ⟨g4, 0, none⟩) c4 (hd mj M ++ Y') (by rw [← hxl5.out]; omega) w5 (F.keep _ _ hT hB5) hX5
        rw [← hxl5.out] at hdc
        replace hdc := show Hid _ from hdc
        have hck := F.check (some ⟨g3, 0, none⟩) c3 (⟨k, ((M : Nat) : Int), []⟩ :: q) ⟨by have := hlight.out.1; simpa using this, fun s hs => by
          rcases List.mem_cons.1 hs with rfl | h
          · simp
          · exact hlight.out.2 s (.tail _ h)⟩
        rw [← hL6] at hck
        replace hck := show Hid _ from hck
        clear hset6 hO5 hX5 hO6 hbz hL6 hX' hdn
        refine Calls.mono (Hid.out hdc) ?_
        rintro e w6 ⟨⟨-, a6, c6, rfl, -⟩ | ⟨_, _, _, e1, -⟩, hb6⟩
        rotate_left
        · rw [hd'.out] at e1; cases e1
        have hB6 := hB5.trans (hb6.mono hB5.size)
        have hT7 := hT6.below hb6
        go_wp2_with fail
        refine (hck.out w6 (F.keep _ _ hT hB6) hT7).mono ?_
        rintro e w7 ⟨rfl, hb7⟩
        rw [hen.out]
        simp only [Option.isSome_none, Bool.false_eq_true, if_false]
        have hB7 := hB6.trans (hb7.mono hB6.size)
        go_wp2_with fail
        refine (fin.out w7 hB7).mono ?_
        rintro e w8 ⟨rfl, hB8⟩
        go_wp2_with fail
        go_ret
        exact ⟨rfl, hB8⟩
      · as_aux_lemma =>
        go_wp2_with fail
        obtain ⟨M, HM⟩ : ∃ M : Nat, Hid (N + 1 = M) := ⟨_, rfl⟩
        have hM : Hid (M < 24) := by show _ < _; have := HM.out; omega
        have hMN : Hid (((M : Nat) : Int) ≠ (N : Int)) := by show _ ≠ _; have := HM.out; omega
        have hst : (N : Int) + 1 = ((M : Nat) : Int) := by have := HM.out; omega
        have hby : ((c : Int) + 1) % 256 = ((32 * mj + M : Nat) : Int) := by have := HM.out; have := Hc.out; have := hlow_small N (by omega); omega
        rw [hst, hby]
        have hgg : g3 ≠ g4 := by omega
        have hcN : Hid (hlow N = N) := hlow_small N (by omega)
        obtain ⟨Y', hX', hdn⟩ := dec_other (n := M) hx.out hk hMN.out hM.out (by show (N : Int) < 24; omega)
        simp only [Int.toNat_natCast] at hX'
        rw [Hmj.out] at hX' hdn
        have hset : Hid (X.set 0 ((32 * mj + M : Nat) : Int) = hd mj M ++ Y') := by show _ = _; rw [hX', hd_small (by omega), hd_small hM.out]; rfl
        have hd' := show Hid _ from hdn
        have hen : Hid (enc (⟨k, ((M : Nat) : Int), []⟩ :: q) = none) := enc_other hx.out hk hMN.out (by omega)
        have hO5 := own_set8 (i := 0) (y := ((32 * mj + M : Nat) : Int)) hg4 (hA4.setCell_other (p := ⟨g3, 1, none⟩) hgg (.int .i64 ((M : Nat) : Int))) rfl hc4 hm4 hs4 ht4
        rw [hset.out] at hO5
        have hbz : Bys (hd mj M ++ Y') := by
          rw [← hset.out]
          intro z hz
          rcases List.mem_or_eq_of_mem_set hz with h | h
          · exact hbX z h
          · subst h; have := hM.out; omega
        have hX5 := (txt_same hO5 hbz).2
        have hxl5 : Hid (X.length = (hd mj M ++ Y').length) := by show _ = _; rw [← hset.out, List.length_set]
        have hB5 : Below w1.heap.size w1 ((w4.setCell ⟨g3, 1, none⟩ (.int .i64 ((M : Nat) : Int))).setCell ⟨g4, 0, none⟩ (.int .u8 ((32 * mj + M : Nat) : Int))) := by
          have h1 := below_grown hB4 (grown_setCell w4 g3 1 (.int .i64 ((M : Nat) : Int))) hB4.size (Nat.le_trans hB2.size hg3a)
          exact below_grown h1 (grown_setCell _ g4 0 (.int .u8 ((32 * mj + M : Nat) : Int))) h1.size (Nat.le_trans hB3.size hg4)
        have hO6 := OwnToks.setN (show OwnToks _ _ _ _ from hO3w.out) (i := 0) (t := ⟨k, (N : Int), []⟩) (w' := (w4.setCell ⟨g3, 1, none⟩ (.int .i64 ((M : Nat) : Int))).setCell ⟨g4, 0, none⟩ (.int .u8 ((32 * mj + M : Nat) : Int))) rfl (n := ((M : Nat) : Int)) (by omega) (by have := hM.out; omega)
          (fun cur ho => ((ho.below hb4 ho.lt).setCell 1 (.int .i64 ((M : Nat) : Int))).setCell_other (p := ⟨g4, 0, none⟩) hgg.symm _)
          (fun b hb hne => by
            rw [(grown_setCell (w4.setCell ⟨g3, 1, none⟩ (.int .i64 ((M : Nat) : Int))) g4 0 (.int .u8 ((32 * mj + M : Nat) : Int))).block b (by simp only [World.size_setCell]; exact Nat.lt_of_lt_of_le hb hb4.size) (by simp; omega), (grown_setCell w4 g3 1 (.int .i64 ((M : Nat) : Int))).block b (Nat.lt_of_lt_of_le hb hb4.size) (by simpa using hne), hb4.block b hb])
        have hset6 : (((⟨k, (N : Int), []⟩ : Tk) :: q).set 0 ⟨k, ((M : Nat) : Int), []⟩) = ⟨k, ((M : Nat) : Int), []⟩ :: q := rfl
        rw [hset6] at hO6
        generalize (w4.setCell ⟨g3, 1, none⟩ (.int .i64 ((M : Nat) : Int))).setCell ⟨g4, 0, none⟩ (.int .u8 ((32 * mj + M : Nat) : Int)) = w5 at hO5 hX5 hB5 hO6 ⊢
        obtain ⟨ay, cy, ey, hT6⟩ := hO6.form
        simp only [Value.slice.injEq] at ey
        obtain ⟨rfl, hL6, rfl⟩ := ey
        have hdc := F.decode (some ⟨g4, 0, none⟩) c4 (hd mj M ++ Y') (by rw [← hxl5.out]; omega) w5 (F.keep _ _ hT hB5) hX5
        rw [← hxl5.out] at hdc
        replace hdc := show Hid _ from hdc
        have hck := F.check (some ⟨g3, 0, none⟩) c3 (⟨k, ((M : Nat) : Int), []⟩ :: q) ⟨by have := hlight.out.1; simpa using this, fun s hs => by
          rcases List.mem_cons.1 hs with rfl | h
          · simp
          · exact hlight.out.2 s (.tail _ h)⟩
        rw [← hL6] at hck
        replace hck := show Hid _ from hck
        clear hset6 hO5 hX5 hO6 hbz hL6 hX' hdn
        refine Calls.mono (Hid.out hdc) ?_
        rintro e w6 ⟨⟨-, a6, c6, rfl, -⟩ | ⟨_, _, _, e1, -⟩, hb6⟩
        rotate_left
        · rw [hd'.out] at e1; cases e1
        have hB6 := hB5.trans (hb6.mono hB5.size)
        have hT7 := hT6.below hb6
        go_wp2_with fail
        refine (hck.out w6 (F.keep _ _ hT hB6) hT7).mono ?_
        rintro e w7 ⟨rfl, hb7⟩
        rw [hen.out]
        simp only [Option.isSome_none, Bool.false_eq_true, if_false]
        have hB7 := hB6.trans (hb7.mono hB6.size)
        go_wp2_with fail
        refine (fin.out w7 hB7).mono ?_
        rintro e w8 ⟨rfl, hB8⟩
        go_wp2_with fail
        go_ret
        exact ⟨rfl, hB8⟩
    · rcases hz with hz | hz
      · as_aux_lemma =>
        go_wp2_with fail
        obtain ⟨M, HM⟩ : ∃ M : Nat, Hid (N + 1 = M) := ⟨_, rfl⟩
        have hM : Hid (M < 24) := by show _ < _; have := HM.out; omega
        have hMN : Hid (((M : Nat) : Int) ≠ (N : Int)) := by show _ ≠ _; have := HM.out; omega
        have hst : (N : Int) + 1 = ((M : Nat) : Int) := by have := HM.out; omega
        have hby : ((c : Int) + 1) % 256 = ((32 * mj + M : Nat) : Int) := by have := HM.out; have := Hc.out; have := hlow_small N (by omega); omega
        rw [hst, hby]
        have hgg : g3 ≠ g4 := by omega
        have hcN : Hid (hlow N = N) := hlow_small N (by omega)
        obtain ⟨Y', hX', hdn⟩ := dec_other (n := M) hx.out hk hMN.out hM.out (by show (N : Int) < 24; omega)
        simp only [Int.toNat_natCast] at hX'
        rw [Hmj.out] at hX' hdn
        have hset : Hid (X.set 0 ((32 * mj + M : Nat) : Int) = hd mj M ++ Y') := by show _ = _; rw [hX', hd_small (by omega), hd_small hM.out]; rfl
        have hd' := show Hid _ from hdn
        have hen : Hid (enc (⟨k, ((M : Nat) : Int), []⟩ :: q) = none) := enc_other hx.out hk hMN.out (by omega)
        have hO5 := own_set8 (i := 0) (y := ((32 * mj + M : Nat) : Int)) hg4 (hA4.setCell_other (p := ⟨g3, 1, none⟩) hgg (.int .i64 ((M : Nat) : Int))) rfl hc4 hm4 hs4 ht4
        rw [hset.out] at hO5
        have hbz : Bys (hd mj M ++ Y') := by
          rw [← hset.out]
          intro z hz
          rcases List.mem_or_eq_of_mem_set hz with h | h
          · exact hbX z h
          · subst h; have := hM.out; omega
        have hX5 := (txt_same hO5 hbz).2
        have hxl5 : Hid (X.length = (hd mj M ++ Y').length) := by show _ = _; rw [← hset.out, List.length_set]
        have hB5 : Below w1.heap.size w1 ((w4.setCell ⟨g3, 1, none⟩ (.int .i64 ((M : Nat) : Int))).setCell ⟨g4, 0, none⟩ (.int .u8 ((32 * mj + M : Nat) : Int))) := by
          have h1 := below_grown hB4 (grown_setCell w4 g3 1 (.int .i64 ((M : Nat) : Int))) hB4.size (Nat.le_trans hB2.size hg3a)
          exact below_grown h1 (grown_setCell _ g4 0 (.int .u8 ((32 * mj + M : Nat) : Int))) h1.size (Nat.le_trans hB3.size hg4)
        have hO6 := OwnToks.setN (show OwnToks _ _ _ _ from hO3w.out) (i := 0) (t := ⟨k, (N : Int), []⟩) (w' := (w4.setCell ⟨g3, 1, none⟩ (.int .i64 ((M : Nat) : Int))).setCell ⟨g4, 0, none⟩ (.int .u8 ((32 * mj + M : Nat) : Int))) rfl (n := ((M : Nat) : Int)) (by omega) (by have := hM.out; omega)
          (fun cur ho => ((ho.below hb4 ho.lt).setCell 1 (.int .i64 ((M : Nat) : Int))).setCell_other (p := ⟨g4, 0, none⟩) hgg.symm _)
          (fun b hb hne => by
            rw [(grown_setCell (w4.setCell ⟨g3, 1, none⟩ (.int .i64 ((M : Nat) : Int))) g4 0 (.int .u8 ((32 * mj + M : Nat) : Int))).block b (by simp only [World.size_setCell]; exact Nat.lt_of_lt_of_le hb hb4.size) (by simp; omega), (grown_setCell w4 g3 1 (.int .i64 ((M : Nat) : Int))).block b (Nat.lt_of_lt_of_le hb hb4.size) (by simpa using hne), hb4.block b hb])
        have hset6 : (((⟨k, (N : Int), []⟩ : Tk) :: q).set 0 ⟨k, ((M : Nat) : Int), []⟩) = ⟨k, ((M : Nat) : Int), []⟩ :: q := rfl
        rw [hset6] at hO6
        generalize (w4.setCell ⟨g3, 1, none⟩ (.int .i64 ((M : Nat) : Int))).setCell ⟨g4, 0, none⟩ (.int .u8 ((32 * mj + M : Nat) : Int)) = w5 at hO5 hX5 hB5 hO6 ⊢
        obtain ⟨ay, cy, ey, hT6⟩ := hO6.form
        simp only [Value.slice.injEq] at ey
        obtain ⟨rfl, hL6, rfl⟩ := ey
        have hdc := F.decode (some ⟨g4, 0, none⟩) c4 (hd mj M ++ Y') (by rw [← hxl5.out]; omega) w5 (F.keep _ _ hT hB5) hX5
        rw [← hxl5.out] at hdc
        replace hdc := show Hid _ from hdc
        have hck := F.check (some ⟨g3, 0, none⟩) c3 (⟨k, ((M : Nat) : Int), []⟩ :: q) ⟨by have := hlight.out.1; simpa using this, fun s hs => by
          rcases List.mem_cons.1 hs with rfl | h
          · simp
          · exact hlight.out.2 s (.tail _ h)⟩
        rw [← hL6] at hck
        replace hck := show Hid _ from hck
        clear hset6 hO5 hX5 hO6 hbz hL6 hX' hdn
        refine Calls.mono (Hid.out hdc) ?_
        rintro e w6 ⟨⟨-, a6, c6, rfl, -⟩ | ⟨_, _, _, e1, -⟩, hb6⟩
        rotate_left
        · rw [hd'.out] at e1; cases e1
        have hB6 := hB5.trans (hb6.mono hB5.size)
        have hT7 := hT6.below hb6
        go_wp2_with fail
        refine (hck.out w6 (F.keep _ _ hT hB6) hT7).mono ?_
        rintro e w7 ⟨rfl, hb7⟩
        rw [hen.out]
        simp only [Option.isSome_none, Bool.false_eq_true, if_false]
        have hB7 := hB6.trans (hb7.mono hB6.size)
        go_wp2_with fail
        refine (fin.out w7 hB7).mono ?_
        rintro e w8 ⟨rfl, hB8⟩
        go_wp2_with fail
        go_ret
        exact ⟨rfl, hB8⟩
      · as_aux_lemma =>
        go_wp2_with fail
        obtain ⟨M, HM⟩ : ∃ M : Nat, Hid (N + 1 = M) := ⟨_, rfl⟩
        have hM : Hid (M < 24) := by show _ < _; have := HM.out; omega
        have hMN : Hid (((M : Nat) : Int) ≠ (N : Int)) := by show _ ≠ _; have := HM.out; omega
        have hst : (N : Int) + 1 = ((M : Nat) : Int) := by have := HM.out; omega
        have hby : ((c : Int) + 1) % 256 = ((32 * mj + M : Nat) : Int) := by have := HM.out; have := Hc.out; have := hlow_small N (by omega); omega
        rw [hst, hby]
        have hgg : g3 ≠ g4 := by omega
        have hcN : Hid (hlow N = N) := hlow_small N (by omega)
        obtain ⟨Y', hX', hdn⟩ := dec_other (n := M) hx.out hk hMN.out hM.out (by show (N : Int) < 24; omega)
        simp only [Int.toNat_natCast] at hX'
        rw [Hmj.out] at hX' hdn
        have hset : Hid (X.set 0 ((32 * mj + M : Nat) : Int) = hd mj M ++ Y') := by show _ = _; rw [hX', hd_small (by omega), hd_small hM.out]; rfl
        have hd' := show Hid _ from hdn
        have hen : Hid (enc (⟨k, ((M : Nat) : Int), []⟩ :: q) = none) := enc_other hx.out hk hMN.out (by omega)
        have hO5 := own_set8 (i := 0) (y := ((32 * mj + M : Nat) : Int)) hg4 (hA4.setCell_other (p := ⟨g3, 1, none⟩) hgg (.int .i64 ((M : Nat) : Int))) rfl hc4 hm4 hs4 ht4
        rw [hset.out] at hO5
        have hbz : Bys (hd mj M ++ Y') := by
          rw [← hset.out]
          intro z hz
          rcases List.mem_or_eq_of_mem_set hz with h | h
          · exact hbX z h
          · subst h; have := hM.out; omega
        have hX5 := (txt_same hO5 hbz).2
        have hxl5 : Hid (X.length = (hd mj M ++ Y').length) := by show _ = _; rw [← hset.out, List.length_set]
        have hB5 : Below w1.heap.size w1 ((w4.setCell ⟨g3, 1, none⟩ (.int .i64 ((M : Nat) : Int))).setCell ⟨g4, 0, none⟩ (.int .u8 ((32 * mj + M : Nat) : Int))) := by
          have h1 := below_grown hB4 (grown_setCell w4 g3 1 (.int .i64 ((M : Nat) : Int))) hB4.size (Nat.le_trans hB2.size hg3a)
          exact below_grown h1 (grown_setCell _ g4 0 (.int .u8 ((32 * mj + M : Nat) : Int))) h1.size (Nat.le_trans hB3.size hg4)
        have hO6 := OwnToks.setN (show OwnToks _ _ _ _ from hO3w.out) (i := 0) (t := ⟨k, (N : Int), []⟩) (w' := (w4.setCell ⟨g3, 1, none⟩ (.int .i64 ((M : Nat) : Int))).setCell ⟨g4, 0, none⟩ (.int .u8 ((32 * mj + M : Nat) : Int))) rfl (n := ((M : Nat) : Int)) (by omega) (by have := hM.out; omega)
          (fun cur ho => ((ho.below hb4 ho.lt).setCell 1 (.int .i64 ((M : Nat) : Int))).setCell_other (p := ⟨g4, 0, none⟩) hgg.symm _)
          (fun b hb hne => by
            rw [(grown_setCell (w4.setCell ⟨g3, 1, none⟩ (.int .i64 ((M : Nat) : Int))) g4 0 (.int .u8 ((32 * mj + M : Nat) : Int))).block b (by simp only [World.size_setCell]; exact Nat.lt_of_lt_of_le hb hb4.size) (by simp; omega), (grown_setCell w4 g3 1 (.int .i64 ((M : Nat) : Int))).block b (Nat.lt_of_lt_of_le hb hb4.size) (by simpa using hne), hb4.block b hb])
        have hset6 : (((⟨k, (N : Int), []⟩ : Tk) :: q).set 0 ⟨k, ((M : Nat) : Int), []⟩) = ⟨k, ((M : Nat) : Int), []⟩ :: q := rfl
        rw [hset6] at hO6
        generalize (w4.setCell ⟨g3, 1, none⟩ (.int .i64 ((M : Nat) : Int))).setCell ⟨g4, 0, none⟩ (.int .u8 ((32 * mj + M : Nat) : Int)) = w5 at hO5 hX5 hB5 hO6 ⊢
        obtain ⟨ay, cy, ey, hT6⟩ := hO6.form
        simp only [Value.slice.injEq] at ey
        obtain ⟨rfl, hL6, rfl⟩ := ey
        have hdc := F.decode (some ⟨g4, 0, none⟩) c4 (hd mj M ++ Y') (by rw [← hxl5.out]; omega) w5 (F.keep _ _ hT hB5) hX5
        rw [← hxl5.out] at hdc
        replace hdc := show Hid _ from hdc
        have hck := F.check (some ⟨g3, 0, none⟩) c3 (⟨k, ((M : Nat) : Int), []⟩ :: q) ⟨by have := hlight.out.1; simpa using this, fun s hs => by
          rcases List.mem_cons.1 hs with rfl | h
          · simp
          · exact hlight.out.2 s (.tail _ h)⟩
        rw [← hL6] at hck
        replace hck := show Hid _ from hck
        clear hset6 hO5 hX5 hO6 hbz hL6 hX' hdn
        refine Calls.mono (Hid.out hdc) ?_
        rintro e w6 ⟨⟨-, a6, c6, rfl, -⟩ | ⟨_, _, _, e1, -⟩, hb6⟩
        rotate_left
        · rw [hd'.out] at e1; cases e1
        have hB6 := hB5.trans (hb6.mono hB5.size)
        have hT7 := hT6.below hb6
        go_wp2_with fail
        refine (hck.out w6 (F.keep _ _ hT hB6) hT7).mono ?_
        rintro e w7 ⟨rfl, hb7⟩
        rw [hen.out]
        simp only [Option.isSome_none, Bool.false_eq_true, if_false]
        have hB7 := hB6.trans (hb7.mono hB6.size)
        go_wp2_with fail
        refine (fin.out w7 hB7).mono ?_
        rintro e w8 ⟨rfl, hB8⟩
        go_wp2_with fail
        go_ret
        exact ⟨rfl, hB8⟩
end Go.Proofs.YtaabcllghniaoabDoor
