/- The page's tokens of bytes. -/
import Derived.Test.YtaabcllghniaoaaDoorCQ
import Derived.Test.YtaabcllghniaoaaDoorHG
import Derived.Test.YtaabcllghniaoaaDoorBF
namespace Go.Proofs.YtaabcllghniaoaaDoor
open Go Go.RowKit
/-- What the page tells of bytes from a place on, behind the tokens l0. -/
def TokSaid (w0 w' : World) (m : List Int) (l0 : List Tk) (o : Option (List Tk × List Int)) (e : Ending) : Prop :=
  (e = .returned (.tuple #[.slice none 0 0, .int .i64 0, .bool false]) ∧ (o = none ∨ ∃ ts r, o = some (ts, r) ∧ 600 < l0.length + ts.length)) ∨
  ∃ ts q' a c, o = some (ts, m.drop q') ∧ q' ≤ m.length ∧ l0.length + ts.length ≤ 600 ∧ e = .returned (.tuple #[.slice a (l0.length + ts.length) c, .int .i64 (q' : Int), .bool true]) ∧ OwnToks w' w0.heap.size (.slice a (l0.length + ts.length) c) (l0 ++ ts)
def IHt (w0 : World) (a : Option Addr) (cap : Nat) (m : List Int) (d : Nat) (D : Int) : Prop := ∀ (q : Nat) (w : World) (ga : Option Addr) (gc : Nat) (l0 : List Tk), q ≤ m.length → l0.length ≤ 600 → Below w0.heap.size w0 w → OwnToks w w0.heap.size (.slice ga l0.length gc) l0 →
  Calls Tryd.prog 25 #[.slice a m.length cap, .int .i64 (q : Int), .slice ga l0.length gc, .int .i64 D] w fun e w' => TokSaid w0 w' m l0 (toks d (m.drop q)) e ∧ Below w0.heap.size w0 w'
theorem hgetR_of {m : List Int} {q : Nat} (hq : q ≤ m.length) : hgetR m q = match hget (m.drop q) with
    | none => (0, 0, 0, 3)
    | some (major, n, k) => ((major : Int), (n : Int), (q : Int) + (k : Int), 0) := by
  unfold hgetR
  rw [if_neg (by omega), Int.toNat_natCast]
  cases hget (m.drop q) <;> rfl
theorem toks_def : ∀ d, ∃ f, toks d = toksF f ∧ (d = 0 ∧ f = none ∨ ∃ d', d = d' + 1 ∧ f = some (toks d'))
  | 0 => ⟨none, rfl, .inl ⟨rfl, rfl⟩⟩
  | d + 1 => ⟨some (toks d), rfl, .inr ⟨d, rfl, rfl⟩⟩
theorem toksF_of {f : Option (List Int → Option (List Tk × List Int))} {m : List Int} {q mj n k : Nat} (h : hget (m.drop q) = some (mj, n, k)) : toksF f (m.drop q) =
    if mj = 0 then some ([⟨1, n, []⟩], m.drop (q + k))
    else if mj = 1 then some ([⟨2, n, []⟩], m.drop (q + k))
    else if mj = 2 ∨ mj = 3 then (if (m.drop (q + k)).length < n then none else some ([⟨(mj : Int) + 1, 0, (m.drop (q + k)).take n⟩], m.drop (q + k + n)))
    else if mj = 4 ∨ mj = 5 then (if 64 < n then none else toksL f mj n (m.drop (q + k)))
    else none := by
  unfold toksF
  rw [h]
  simp only [List.drop_drop]
theorem cut_txt {w : World} {b off cap : Nat} {m : List Int} (hm : Txt w (some ⟨b, off, none⟩) cap m) (p k : Nat) (h : p + k ≤ m.length) : (p < cap → Txt w (some ⟨b, off + p, none⟩) (cap - p) ((m.drop p).take k)) ∧ (cap ≤ p → ∀ a, Txt w (some a) 0 ((m.drop p).take k)) := by
  have hlen : ((m.drop p).take k).length = k := by rw [List.length_take, List.length_drop]; omega
  refine ⟨fun hp => ⟨by rw [hlen]; exact hm.part p k h hp, fun e => by cases e⟩, fun hp a => ⟨?_, fun e => by cases e⟩⟩
  have := hm.1.2.1
  rw [hlen]
  obtain rfl : k = 0 := by omega
  exact ⟨rfl, Nat.le_refl _, by decide, fun x hx => (by cases hx), fun h => absurd h (by decide)⟩
theorem twin_n {a : Option Addr} {cap n : Nat} {m : List Int} {w : World} (hn : n = m.length) (hm : Txt w a cap m) (hl : m.length ≤ 1000000) : Calls Tryd.prog 18 #[.slice a n cap] w fun e w' => ∃ a' cap', e = .returned (.slice a' n cap') ∧ OwnBytes w' w.heap.size (.slice a' n cap') m ∧ Txt w' a' cap' m ∧ Below w.heap.size w w' := by
  subst hn
  exact twin_is hm hl
theorem tx_nil (w : World) : Tx w (.slice none 0 0) [] := ⟨none, 0, rfl, txt_nil w⟩
set_option maxRecDepth 100000 in
set_option maxHeartbeats 4000000 in
theorem ptok_step {w0 : World} {a : Option Addr} {cap : Nat} {m : List Int} (hm : Txt w0 a cap m) (hl : m.length ≤ 100000) (d : Nat) (hd : d ≤ 6) (D : Int) (hD : D = 6 - (d : Int)) (ih : ∀ d', d = d' + 1 → IHt w0 a cap m d' (D + 1)) : IHt w0 a cap m d D := by
  intro q w ga gc l0 hq hl0 hB hO
  have bm : Hid (Bys m) := hm.1.2.2.2.1
  obtain ⟨f, hf, hfd⟩ := toks_def d
  rw [hf]
  have hfd := show Hid _ from hfd
  have ih := show Hid _ from ih
  replace hD := show Hid _ from (show D = 6 - (d : Int) ∧ d ≤ 6 from ⟨hD, hd⟩)
  have hpos := show Hid _ from @toksF_pos f (m.drop q)
  obtain ⟨O, HO⟩ : ∃ O, Hid (toksF f (m.drop q) = O) := ⟨_, rfl⟩
  rw [HO.out] at hpos ⊢
  have hmw := hm.below hB
  have hq0 : (0 : Int) ≤ (q : Int) := by omega
  have hq1 : (q : Int) ≤ 100000 := by omega
  have hl600 : (l0.length : Int) ≤ 600 := by omega
  have hmlen : (m.length : Int) ≤ 100000 := by omega
  obtain ⟨N0, HN0⟩ : ∃ N, Hid (l0.length = N) := ⟨_, rfl⟩
  rw [HN0.out] at hl600 hO hl0 ⊢
  have hO : Hid (OwnToks w w0.heap.size (.slice ga N0 gc) l0) := hO
  have hgR := show Hid _ from hgetR_of hq
  go_enter Tryd.func25, Tryd.ntmps25
  go_wp2_with fail
  refine (pget_is (q : Int) hmw (by omega)).mono ?_
  rintro e w1 ⟨rfl, hb1⟩
  have hB1 := hB.trans (hb1.mono hB.size)
  have hO1 : Hid (OwnToks w1 w0.heap.size (.slice ga N0 gc) l0) := OwnToks.below hO.out hb1
  rw [hgR.out]
  cases hg : hget (m.drop q) with
  | none =>
    have hr : Hid (O = none) := by show _ = _; rw [← HO.out]; unfold toksF; rw [hg]
    clear hgR hg
    simp only [got]
    go_wp2_with fail
    exact bodyPost_ret (results_tmp3 Tryd.results25 _ _ _) rfl ⟨.inl ⟨rfl, .inl hr.out⟩, hB1⟩
  | some y =>
    obtain ⟨mj, n, k⟩ := y
    obtain ⟨hn63, -, -, hk, hmj⟩ := hget_some hg fun z hz => bm.out z (List.mem_of_mem_drop hz)
    rw [List.length_drop] at hk
    have hF : Hid (O = _) := HO.out.symm.trans (toksF_of hg)
    obtain ⟨p, Hp⟩ : ∃ p, Hid (q + k = p) := ⟨_, rfl⟩
    rw [Hp.out] at hF
    have hpm : p ≤ m.length := by have := Hp.out; omega
    have hqm : Hid (q < m.length) := by
      show q < m.length
      rcases Nat.lt_or_ge q m.length with h | h
      · exact h
      · rw [List.drop_of_length_le h] at hg; cases hg
    have hp0 : (0 : Int) ≤ (p : Int) := by omega
    have hp1 : (p : Int) ≤ 100000 := by omega
    have ep : (q : Int) + (k : Int) = (p : Int) := by have := Hp.out; omega
    clear hgR hg
    simp only [got]
    rw [ep]
    have hmj0 : (0 : Int) ≤ (mj : Int) := by omega
    have hmj7 : (mj : Int) ≤ 7 := by omega
    have hn0 : (0 : Int) ≤ (n : Int) := by omega
    have hn63 := show Hid _ from hn63
    clear ep
    by_cases h600 : 600 ≤ N0
    · have h600' : (600 : Int) ≤ (N0 : Int) := by omega
      have hwhy : Hid (O = none ∨ ∃ ts r, O = some (ts, r) ∧ 600 < l0.length + ts.length) := by
        show _ ∨ _
        cases hOO : O with
        | none => exact .inl rfl
        | some z =>
          obtain ⟨ts, r⟩ := z
          rw [hOO] at hpos
          have := hpos.out rfl
          exact .inr ⟨ts, r, rfl, by have := HN0.out; omega⟩
      go_wp2_with fail
      exact bodyPost_ret (results_tmp3 Tryd.results25 _ _ _) rfl ⟨.inl ⟨rfl, hwhy.out⟩, hB1⟩
    have h600' : ¬ (600 : Int) ≤ (N0 : Int) := by omega
    have hmjc : mj = 0 ∨ mj = 1 ∨ mj = 2 ∨ mj = 3 ∨ mj = 4 ∨ mj = 5 ∨ mj = 6 ∨ mj = 7 := by omega
    clear hk hmj
    rcases hmjc with rfl | rfl | rfl | rfl | rfl | rfl | rfl | rfl
    · have hr : Hid (O = some ([⟨1, n, []⟩], m.drop p)) := hF.out
      have hwf : Hid ((⟨1, (n : Int), []⟩ : Tk).wf) := show ((-9223372036854775808 : Int) ≤ 1 ∧ (1 : Int) < 9223372036854775808) ∧ (-9223372036854775808 : Int) ≤ (n : Int) ∧ (n : Int) < 9223372036854775808 from ⟨⟨by decide, by decide⟩, by omega, by have := hn63.out; omega⟩
      go_wp2_with (at_builtin; refine wpList_tokapp (by rfl) (.tmp 35) (.tmp 38) (by rfl) w0.heap.size (by rfl) (OwnToks.below hO1.out (alloc_below _ _)) (by rfl) (show 1 = [(⟨1, (n : Int), []⟩ : Tk)].length from rfl) (toks_one (t := ⟨1, n, []⟩) (P := fun _ => False) (own_new _ _ _) hwf.out (tx_nil _) (fun h => absurd h (Nat.lt_irrefl 0))) (fun _ h => h.elim) (by have := HN0.out; simp only [List.length_cons, List.length_nil]; omega) (hB1.alloc hB1.size _).size ?_; intro a5 c5 w5 hO5 hb5)
      refine bodyPost_ret (results_tmp3 Tryd.results25 _ _ _) rfl ⟨.inr ⟨[⟨1, n, []⟩], p, a5, c5, hr.out, hpm, by have := HN0.out; simp only [List.length_cons, List.length_nil]; omega, rfl, hO5⟩, (hB1.alloc hB1.size _).trans hb5⟩
    · have hr : Hid (O = some ([⟨2, n, []⟩], m.drop p)) := hF.out
      have hwf : Hid ((⟨2, (n : Int), []⟩ : Tk).wf) := show ((-9223372036854775808 : Int) ≤ 2 ∧ (2 : Int) < 9223372036854775808) ∧ (-9223372036854775808 : Int) ≤ (n : Int) ∧ (n : Int) < 9223372036854775808 from ⟨⟨by decide, by decide⟩, by omega, by have := hn63.out; omega⟩
      go_wp2_with (at_builtin; refine wpList_tokapp (by rfl) (.tmp 43) (.tmp 46) (by rfl) w0.heap.size (by rfl) (OwnToks.below hO1.out (alloc_below _ _)) (by rfl) (show 1 = [(⟨2, (n : Int), []⟩ : Tk)].length from rfl) (toks_one (t := ⟨2, n, []⟩) (P := fun _ => False) (own_new _ _ _) hwf.out (tx_nil _) (fun h => absurd h (Nat.lt_irrefl 0))) (fun _ h => h.elim) (by have := HN0.out; simp only [List.length_cons, List.length_nil]; omega) (hB1.alloc hB1.size _).size ?_; intro a5 c5 w5 hO5 hb5)
      refine bodyPost_ret (results_tmp3 Tryd.results25 _ _ _) rfl ⟨.inr ⟨[⟨2, n, []⟩], p, a5, c5, hr.out, hpm, by have := HN0.out; simp only [List.length_cons, List.length_nil]; omega, rfl, hO5⟩, (hB1.alloc hB1.size _).trans hb5⟩
    · by_cases hlong : m.length - p < n
      · have hlong' : (m.length : Int) - (p : Int) < (n : Int) := by omega
        have hr : Hid (O = none) := by
          show _ = _
          rw [hF.out, if_neg (by decide), if_neg (by decide), if_pos (by decide), if_pos (by rw [List.length_drop]; exact hlong)]
        go_wp2_with fail
        exact bodyPost_ret (results_tmp3 Tryd.results25 _ _ _) rfl ⟨.inl ⟨rfl, .inl hr.out⟩, hB1⟩
      · have hlong' : ¬ (m.length : Int) - (p : Int) < (n : Int) := by omega
        obtain ⟨e, He⟩ : ∃ e, Hid (p + n = e) := ⟨_, rfl⟩
        obtain ⟨bb, Hbb⟩ : ∃ bb, Hid ((m.drop p).take n = bb) := ⟨_, rfl⟩
        have hbl : Hid (bb.length = n) := by show _ = _; rw [← Hbb.out, List.length_take, List.length_drop]; omega
        have hr : Hid (O = some ([⟨3, 0, bb⟩], m.drop e)) := by
          show _ = _
          rw [hF.out, if_neg (by decide), if_neg (by decide), if_pos (by decide), if_neg (by rw [List.length_drop]; exact hlong), Hbb.out, He.out]
          rfl
        have hem : e ≤ m.length := by have := He.out; omega
        have hpn : (p : Int) + (n : Int) = (e : Int) := by have := He.out; omega
        have he0 : (0 : Int) ≤ (e : Int) := by omega
        have he1 : (e : Int) ≤ (m.length : Int) := by omega
        have hpe : (p : Int) ≤ (e : Int) := by omega
        obtain ⟨b, off, rfl, -⟩ := hm.1.at q (by have := hqm.out; omega)
        have hcap : (m.length : Int) ≤ (cap : Int) := by have := hm.1.2.1; omega
        have hV := show Hid _ from cut_txt (hm.below hB1) p n (by omega)
        have hep : Hid (e - p = n) := by show _ = _; have := He.out; omega
        have hn100 : n ≤ 100000 := by omega
        have hn100' : (n : Int) ≤ 100000 := by omega
        have hwf : Hid ((⟨3, 0, bb⟩ : Tk).wf) := show ((-9223372036854775808 : Int) ≤ 3 ∧ (3 : Int) < 9223372036854775808) ∧ (-9223372036854775808 : Int) ≤ 0 ∧ (0 : Int) < 9223372036854775808 from ⟨⟨by decide, by decide⟩, by decide, by decide⟩
        rw [Hbb.out] at hV
        have hV := show Hid _ from hV
        clear hn0
        go_wp2_with fail
        all_goals
          try rw [hep.out]
          refine (twin_n hbl.out.symm (by first | exact hV.out.1 (by omega) | exact hV.out.2 (by omega) _) (by rw [hbl.out]; omega)).mono ?_
          rintro e2 w2 ⟨a2, c2, rfl, hO2, ht2, hb2⟩
          have hfr := show Hid _ from (tx_own hO2 ht2.1.2.2.2.1).2
          have htx : Hid (Tx w2 (.slice a2 n c2) bb) := ⟨a2, c2, by rw [hbl.out], ht2⟩
          have hB2 := hB1.trans (hb2.mono hB1.size)
          have hO2' := show Hid _ from OwnToks.below hO1.out hb2
          go_wp2_with (at_builtin; refine wpList_tokapp (by rfl) (.tmp 58) (.tmp 70) (by rfl) w0.heap.size (by rfl) (OwnToks.below hO2'.out (alloc_below _ _)) (by rfl) (show 1 = [(⟨3, 0, bb⟩ : Tk)].length from rfl) (toks_one (t := ⟨3, 0, bb⟩) (P := fun g => w1.heap.size ≤ g) (own_new _ _ _) hwf.out (htx.out.below (alloc_below _ _)) (fun _ g hg => (hfr.out g hg).1)) (fun g' hg' g hg => by have := OwnToks.blk_lt hO1.out g hg; omega) (by have := HN0.out; simp only [List.length_cons, List.length_nil]; omega) (hB2.alloc hB2.size _).size ?_; intro a5 c5 w5 hO5 hb5)
          refine bodyPost_ret (results_tmp3 Tryd.results25 _ _ _) rfl ⟨.inr ⟨[⟨3, 0, bb⟩], e, a5, c5, hr.out, hem, by have := HN0.out; simp only [List.length_cons, List.length_nil]; omega, rfl, hO5⟩, (hB2.alloc hB2.size _).trans hb5⟩
    · by_cases hlong : m.length - p < n
      · have hlong' : (m.length : Int) - (p : Int) < (n : Int) := by omega
        have hr : Hid (O = none) := by
          show _ = _
          rw [hF.out, if_neg (by decide), if_neg (by decide), if_pos (by decide), if_pos (by rw [List.length_drop]; exact hlong)]
        go_wp2_with fail
        exact bodyPost_ret (results_tmp3 Tryd.results25 _ _ _) rfl ⟨.inl ⟨rfl, .inl hr.out⟩, hB1⟩
      · have hlong' : ¬ (m.length : Int) - (p : Int) < (n : Int) := by omega
        obtain ⟨e, He⟩ : ∃ e, Hid (p + n = e) := ⟨_, rfl⟩
        obtain ⟨bb, Hbb⟩ : ∃ bb, Hid ((m.drop p).take n = bb) := ⟨_, rfl⟩
        have hbl : Hid (bb.length = n) := by show _ = _; rw [← Hbb.out, List.length_take, List.length_drop]; omega
        have hr : Hid (O = some ([⟨4, 0, bb⟩], m.drop e)) := by
          show _ = _
          rw [hF.out, if_neg (by decide), if_neg (by decide), if_pos (by decide), if_neg (by rw [List.length_drop]; exact hlong), Hbb.out, He.out]
          rfl
        have hem : e ≤ m.length := by have := He.out; omega
        have hpn : (p : Int) + (n : Int) = (e : Int) := by have := He.out; omega
        have he0 : (0 : Int) ≤ (e : Int) := by omega
        have he1 : (e : Int) ≤ (m.length : Int) := by omega
        have hpe : (p : Int) ≤ (e : Int) := by omega
        obtain ⟨b, off, rfl, -⟩ := hm.1.at q (by have := hqm.out; omega)
        have hcap : (m.length : Int) ≤ (cap : Int) := by have := hm.1.2.1; omega
        have hV := show Hid _ from cut_txt (hm.below hB1) p n (by omega)
        have hep : Hid (e - p = n) := by show _ = _; have := He.out; omega
        have hn100 : n ≤ 100000 := by omega
        have hn100' : (n : Int) ≤ 100000 := by omega
        have hwf : Hid ((⟨4, 0, bb⟩ : Tk).wf) := show ((-9223372036854775808 : Int) ≤ 4 ∧ (4 : Int) < 9223372036854775808) ∧ (-9223372036854775808 : Int) ≤ 0 ∧ (0 : Int) < 9223372036854775808 from ⟨⟨by decide, by decide⟩, by decide, by decide⟩
        rw [Hbb.out] at hV
        have hV := show Hid _ from hV
        clear hn0
        go_wp2_with fail
        all_goals
          try rw [hep.out]
          refine (twin_n hbl.out.symm (by first | exact hV.out.1 (by omega) | exact hV.out.2 (by omega) _) (by rw [hbl.out]; omega)).mono ?_
          rintro e2 w2 ⟨a2, c2, rfl, hO2, ht2, hb2⟩
          have hfr := show Hid _ from (tx_own hO2 ht2.1.2.2.2.1).2
          have htx : Hid (Tx w2 (.slice a2 n c2) bb) := ⟨a2, c2, by rw [hbl.out], ht2⟩
          have hB2 := hB1.trans (hb2.mono hB1.size)
          have hO2' := show Hid _ from OwnToks.below hO1.out hb2
          go_wp2_with (at_builtin; refine wpList_tokapp (by rfl) (.tmp 58) (.tmp 70) (by rfl) w0.heap.size (by rfl) (OwnToks.below hO2'.out (alloc_below _ _)) (by rfl) (show 1 = [(⟨4, 0, bb⟩ : Tk)].length from rfl) (toks_one (t := ⟨4, 0, bb⟩) (P := fun g => w1.heap.size ≤ g) (own_new _ _ _) hwf.out (htx.out.below (alloc_below _ _)) (fun _ g hg => (hfr.out g hg).1)) (fun g' hg' g hg => by have := OwnToks.blk_lt hO1.out g hg; omega) (by have := HN0.out; simp only [List.length_cons, List.length_nil]; omega) (hB2.alloc hB2.size _).size ?_; intro a5 c5 w5 hO5 hb5)
          refine bodyPost_ret (results_tmp3 Tryd.results25 _ _ _) rfl ⟨.inr ⟨[⟨4, 0, bb⟩], e, a5, c5, hr.out, hem, by have := HN0.out; simp only [List.length_cons, List.length_nil]; omega, rfl, hO5⟩, (hB2.alloc hB2.size _).trans hb5⟩
    · have hwf : Hid ((⟨5, (n : Int), []⟩ : Tk).wf) := show ((-9223372036854775808 : Int) ≤ 5 ∧ (5 : Int) < 9223372036854775808) ∧ (-9223372036854775808 : Int) ≤ (n : Int) ∧ (n : Int) < 9223372036854775808 from ⟨⟨by decide, by decide⟩, by omega, by have := hn63.out; omega⟩
      by_cases h64 : 64 < n
      · have h64' : (64 : Int) < (n : Int) := by omega
        have hr : Hid (O = none) := by
          show _ = _
          rw [hF.out, if_neg (by decide), if_neg (by decide), if_neg (by decide), if_pos (by decide), if_pos h64]
        go_wp2_with fail
        exact bodyPost_ret (results_tmp3 Tryd.results25 _ _ _) rfl ⟨.inl ⟨rfl, .inl hr.out⟩, hB1⟩
      have h64' : ¬ (64 : Int) < (n : Int) := by omega
      have hF2 : Hid (O = toksL f 4 n (m.drop p)) := by
        show _ = _
        rw [hF.out, if_neg (by decide), if_neg (by decide), if_neg (by decide), if_pos (by decide), if_neg h64]
      rcases hfd.out with ⟨rfl, rfl⟩ | ⟨d', rfl, rfl⟩
      · have hD6 : (6 : Int) ≤ D := by have := hD.out; omega
        have hr : Hid (O = none) := hF2.out
        go_wp2_with fail
        exact bodyPost_ret (results_tmp3 Tryd.results25 _ _ _) rfl ⟨.inl ⟨rfl, .inl hr.out⟩, hB1⟩
      have hD6 : ¬ (6 : Int) ≤ D := by have := hD.out; omega
      have IH := show Hid _ from ih.out d' rfl
      clear hF hfd ih
      have hD1 : (0 : Int) ≤ D := by have := hD.out; omega
      go_upto_region 21 with (at_builtin; refine wpList_tokapp (by rfl) (.tmp 84) (.tmp 90) (by rfl) w0.heap.size (by rfl) (OwnToks.below hO1.out (alloc_below _ _)) (by rfl) (show 1 = [(⟨5, (n : Int), []⟩ : Tk)].length from rfl) (toks_one (t := (⟨5, (n : Int), []⟩ : Tk)) (P := fun _ => False) (own_new _ _ _) hwf.out (tx_nil _) (fun h => absurd h (Nat.lt_irrefl 0))) (fun _ h => h.elim) (by have := HN0.out; simp only [List.length_cons, List.length_nil]; omega) (hB1.alloc hB1.size _).size ?_; intro a5 c5 w5 hO5 hb5)
      have hB5 := (hB1.alloc hB1.size _).trans hb5
      go_loopw [2, 13, 15, 16] (fun lv nv okv iv wr => ∃ (i q1 L c : Nat) (gx : Option Addr) (xs : List (List Tk)), i ≤ n ∧ iv = .int .i64 (i : Int) ∧ nv = .int .i64 (q1 : Int) ∧ okv = .bool true ∧ lv = .slice gx L c ∧ q1 ≤ m.length ∧ Hid (runs (toks d') i (m.drop p) = some (xs, m.drop q1)) ∧ Hid ((l0 ++ (⟨5, (n : Int), []⟩ : Tk) :: xs.flatten).length = L) ∧ L ≤ 600 ∧ Hid (OwnToks wr w0.heap.size (.slice gx L c) (l0 ++ (⟨5, (n : Int), []⟩ : Tk) :: xs.flatten)) ∧ Below w0.heap.size w0 wr) (fun _ _ _ iv _ => n - (intOf iv).toNat)
      case atStart => exact ⟨0, p, l0.length + 1, c5, a5, [], Nat.zero_le _, rfl, rfl, rfl, rfl, hpm, rfl, by show _ = _; simp, by have := HN0.out; omega, hO5, hB5⟩
      case round =>
        obtain ⟨i, q1, L, c, gx, xs, hi, rfl, rfl, rfl, rfl, hq1m, hruns, hLl, hL6, hOr, hBr⟩ := hrel
        have hi0 : (0 : Int) ≤ (i : Int) := by omega
        have hq10 : (0 : Int) ≤ (q1 : Int) := by omega
        have hN0' := HN0.out
        clear hN0'
        by_cases hlt : i < n
        · have hlt' : (i : Int) < (n : Int) := by omega
          have hcall : Calls Tryd.prog 25 #[.slice a m.length cap, .int .i64 (q1 : Int), .slice gx L c, .int .i64 (D + 1)] wr fun e w' => TokSaid w0 w' m (l0 ++ (⟨5, (n : Int), []⟩ : Tk) :: xs.flatten) (toks d' (m.drop q1)) e ∧ Below w0.heap.size w0 w' := by
            have h1 := IH.out q1 wr gx c (l0 ++ (⟨5, (n : Int), []⟩ : Tk) :: xs.flatten) hq1m (by rw [hLl.out]; exact hL6) hBr (by rw [hLl.out]; exact hOr.out)
            rw [hLl.out] at h1
            exact h1
          have hcall := show Hid _ from hcall
          go_wp2_with fail
          refine Calls.mono (Hid.out hcall) ?_
          rintro e w2 ⟨hS, hB2⟩
          rcases hS with ⟨rfl, hbad⟩ | ⟨ts, q2, a2, c2, hts, hq2, hlen2, rfl, hO2⟩
          · have hwhy : Hid (O = none ∨ ∃ ts r, O = some (ts, r) ∧ 600 < l0.length + ts.length) := by
              show _ ∨ _
              rw [hF2.out]
              rcases hbad with hbd | ⟨ts, r, hbd, hbl⟩
              · exact .inl (toksL_none hruns.out (by omega) hbd)
              · refine toksL_long hruns.out (by omega) hbd l0.length ?_
                rw [List.length_append, List.length_cons] at hbl
                omega
            clear hbad
            go_wp2_with fail
            exact bodyPost_ret (results_tmp3 Tryd.results25 _ _ _) rfl ⟨.inl ⟨rfl, hwhy.out⟩, hB2⟩
          · have hts := show Hid _ from hts
            have e1 : (l0 ++ (⟨5, (n : Int), []⟩ : Tk) :: xs.flatten).length + ts.length = L + ts.length := by rw [hLl.out]
            rw [e1] at hlen2 hO2 ⊢
            have hO2 := show Hid _ from hO2
            clear e1
            go_wp2_with fail
            go_roundw
            case rel => exact ⟨i + 1, q2, L + ts.length, c2, a2, xs ++ [ts], hlt, by go_num, rfl, rfl, rfl, hq2, runs_snoc hruns.out hts.out, by show _ = _; have := hLl.out; rw [List.flatten_append]; simp only [List.flatten_cons, List.flatten_nil, List.append_nil, List.length_append, List.length_cons] at this ⊢; omega, hlen2, by show OwnToks _ _ _ _; rw [List.flatten_append]; simp only [List.flatten_cons, List.flatten_nil, List.append_nil]; rw [show l0 ++ (⟨5, (n : Int), []⟩ : Tk) :: (xs.flatten ++ ts) = (l0 ++ (⟨5, (n : Int), []⟩ : Tk) :: xs.flatten) ++ ts by simp]; exact hO2.out, hB2⟩
            case measure => simp [intOf]; omega
        · have eN : i = n := by omega
          have hr : Hid (O = some ((⟨5, (n : Int), []⟩ : Tk) :: xs.flatten, m.drop q1)) := by
            show _ = _
            rw [hF2.out]
            exact toksL_all hruns.out (by omega)
          have hneg : ¬ (i : Int) < (n : Int) := by omega
          have hLL : Hid (L = l0.length + ((⟨5, (n : Int), []⟩ : Tk) :: xs.flatten).length) := by show _ = _; rw [← hLl.out, List.length_append]
          clear eN hlt
          go_wp2_with fail
          refine bodyPost_ret (results_tmp3 Tryd.results25 _ _ _) rfl ⟨.inr ⟨(⟨5, (n : Int), []⟩ : Tk) :: xs.flatten, q1, gx, c, hr.out, hq1m, by rw [← hLL.out]; exact hL6, by rw [← hLL.out]; rfl, by rw [← hLL.out]; exact hOr.out⟩, hBr⟩
    · have hwf : Hid ((⟨6, (n : Int), []⟩ : Tk).wf) := show ((-9223372036854775808 : Int) ≤ 6 ∧ (6 : Int) < 9223372036854775808) ∧ (-9223372036854775808 : Int) ≤ (n : Int) ∧ (n : Int) < 9223372036854775808 from ⟨⟨by decide, by decide⟩, by omega, by have := hn63.out; omega⟩
      by_cases h64 : 64 < n
      · have h64' : (64 : Int) < (n : Int) := by omega
        have hr : Hid (O = none) := by
          show _ = _
          rw [hF.out, if_neg (by decide), if_neg (by decide), if_neg (by decide), if_pos (by decide), if_pos h64]
        go_wp2_with fail
        exact bodyPost_ret (results_tmp3 Tryd.results25 _ _ _) rfl ⟨.inl ⟨rfl, .inl hr.out⟩, hB1⟩
      have h64' : ¬ (64 : Int) < (n : Int) := by omega
      have hF2 : Hid (O = toksL f 5 n (m.drop p)) := by
        show _ = _
        rw [hF.out, if_neg (by decide), if_neg (by decide), if_neg (by decide), if_pos (by decide), if_neg h64]
      rcases hfd.out with ⟨rfl, rfl⟩ | ⟨d', rfl, rfl⟩
      · have hD6 : (6 : Int) ≤ D := by have := hD.out; omega
        have hr : Hid (O = none) := hF2.out
        go_wp2_with fail
        exact bodyPost_ret (results_tmp3 Tryd.results25 _ _ _) rfl ⟨.inl ⟨rfl, .inl hr.out⟩, hB1⟩
      have hD6 : ¬ (6 : Int) ≤ D := by have := hD.out; omega
      have IH := show Hid _ from ih.out d' rfl
      clear hF hfd ih
      have hD1 : (0 : Int) ≤ D := by have := hD.out; omega
      go_upto_region 21 with (at_builtin; refine wpList_tokapp (by rfl) (.tmp 84) (.tmp 90) (by rfl) w0.heap.size (by rfl) (OwnToks.below hO1.out (alloc_below _ _)) (by rfl) (show 1 = [(⟨6, (n : Int), []⟩ : Tk)].length from rfl) (toks_one (t := (⟨6, (n : Int), []⟩ : Tk)) (P := fun _ => False) (own_new _ _ _) hwf.out (tx_nil _) (fun h => absurd h (Nat.lt_irrefl 0))) (fun _ h => h.elim) (by have := HN0.out; simp only [List.length_cons, List.length_nil]; omega) (hB1.alloc hB1.size _).size ?_; intro a5 c5 w5 hO5 hb5)
      have hB5 := (hB1.alloc hB1.size _).trans hb5
      go_loopw [2, 13, 15, 16] (fun lv nv okv iv wr => ∃ (i q1 L c : Nat) (gx : Option Addr) (xs : List (List Tk)), i ≤ (n * 2) ∧ iv = .int .i64 (i : Int) ∧ nv = .int .i64 (q1 : Int) ∧ okv = .bool true ∧ lv = .slice gx L c ∧ q1 ≤ m.length ∧ Hid (runs (toks d') i (m.drop p) = some (xs, m.drop q1)) ∧ Hid ((l0 ++ (⟨6, (n : Int), []⟩ : Tk) :: xs.flatten).length = L) ∧ L ≤ 600 ∧ Hid (OwnToks wr w0.heap.size (.slice gx L c) (l0 ++ (⟨6, (n : Int), []⟩ : Tk) :: xs.flatten)) ∧ Below w0.heap.size w0 wr) (fun _ _ _ iv _ => (n * 2) - (intOf iv).toNat)
      case atStart => exact ⟨0, p, l0.length + 1, c5, a5, [], Nat.zero_le _, rfl, rfl, rfl, rfl, hpm, rfl, by show _ = _; simp, by have := HN0.out; omega, hO5, hB5⟩
      case round =>
        obtain ⟨i, q1, L, c, gx, xs, hi, rfl, rfl, rfl, rfl, hq1m, hruns, hLl, hL6, hOr, hBr⟩ := hrel
        have hi0 : (0 : Int) ≤ (i : Int) := by omega
        have hq10 : (0 : Int) ≤ (q1 : Int) := by omega
        have hN0' := HN0.out
        clear hN0'
        by_cases hlt : i < (n * 2)
        · have hlt' : (i : Int) < (n : Int) * 2 := by omega
          have hcall : Calls Tryd.prog 25 #[.slice a m.length cap, .int .i64 (q1 : Int), .slice gx L c, .int .i64 (D + 1)] wr fun e w' => TokSaid w0 w' m (l0 ++ (⟨6, (n : Int), []⟩ : Tk) :: xs.flatten) (toks d' (m.drop q1)) e ∧ Below w0.heap.size w0 w' := by
            have h1 := IH.out q1 wr gx c (l0 ++ (⟨6, (n : Int), []⟩ : Tk) :: xs.flatten) hq1m (by rw [hLl.out]; exact hL6) hBr (by rw [hLl.out]; exact hOr.out)
            rw [hLl.out] at h1
            exact h1
          have hcall := show Hid _ from hcall
          go_wp2_with fail
          refine Calls.mono (Hid.out hcall) ?_
          rintro e w2 ⟨hS, hB2⟩
          rcases hS with ⟨rfl, hbad⟩ | ⟨ts, q2, a2, c2, hts, hq2, hlen2, rfl, hO2⟩
          · have hwhy : Hid (O = none ∨ ∃ ts r, O = some (ts, r) ∧ 600 < l0.length + ts.length) := by
              show _ ∨ _
              rw [hF2.out]
              rcases hbad with hbd | ⟨ts, r, hbd, hbl⟩
              · exact .inl (toksL_none hruns.out (by omega) hbd)
              · refine toksL_long hruns.out (by omega) hbd l0.length ?_
                rw [List.length_append, List.length_cons] at hbl
                omega
            clear hbad
            go_wp2_with fail
            exact bodyPost_ret (results_tmp3 Tryd.results25 _ _ _) rfl ⟨.inl ⟨rfl, hwhy.out⟩, hB2⟩
          · have hts := show Hid _ from hts
            have e1 : (l0 ++ (⟨6, (n : Int), []⟩ : Tk) :: xs.flatten).length + ts.length = L + ts.length := by rw [hLl.out]
            rw [e1] at hlen2 hO2 ⊢
            have hO2 := show Hid _ from hO2
            clear e1
            go_wp2_with fail
            go_roundw
            case rel => exact ⟨i + 1, q2, L + ts.length, c2, a2, xs ++ [ts], hlt, by go_num, rfl, rfl, rfl, hq2, runs_snoc hruns.out hts.out, by show _ = _; have := hLl.out; rw [List.flatten_append]; simp only [List.flatten_cons, List.flatten_nil, List.append_nil, List.length_append, List.length_cons] at this ⊢; omega, hlen2, by show OwnToks _ _ _ _; rw [List.flatten_append]; simp only [List.flatten_cons, List.flatten_nil, List.append_nil]; rw [show l0 ++ (⟨6, (n : Int), []⟩ : Tk) :: (xs.flatten ++ ts) = (l0 ++ (⟨6, (n : Int), []⟩ : Tk) :: xs.flatten) ++ ts by simp]; exact hO2.out, hB2⟩
            case measure => simp [intOf]; omega
        · have eN : i = (n * 2) := by omega
          have hr : Hid (O = some ((⟨6, (n : Int), []⟩ : Tk) :: xs.flatten, m.drop q1)) := by
            show _ = _
            rw [hF2.out]
            exact toksL_all hruns.out (by omega)
          have hneg : ¬ (i : Int) < (n : Int) * 2 := by omega
          have hLL : Hid (L = l0.length + ((⟨6, (n : Int), []⟩ : Tk) :: xs.flatten).length) := by show _ = _; rw [← hLl.out, List.length_append]
          clear eN hlt
          go_wp2_with fail
          refine bodyPost_ret (results_tmp3 Tryd.results25 _ _ _) rfl ⟨.inr ⟨(⟨6, (n : Int), []⟩ : Tk) :: xs.flatten, q1, gx, c, hr.out, hq1m, by rw [← hLL.out]; exact hL6, by rw [← hLL.out]; rfl, by rw [← hLL.out]; exact hOr.out⟩, hBr⟩
    · have hr : Hid (O = none) := hF.out
      go_wp2_with fail
      exact bodyPost_ret (results_tmp3 Tryd.results25 _ _ _) rfl ⟨.inl ⟨rfl, .inl hr.out⟩, hB1⟩
    · have hr : Hid (O = none) := hF.out
      go_wp2_with fail
      exact bodyPost_ret (results_tmp3 Tryd.results25 _ _ _) rfl ⟨.inl ⟨rfl, .inl hr.out⟩, hB1⟩
end Go.Proofs.YtaabcllghniaoaaDoor
