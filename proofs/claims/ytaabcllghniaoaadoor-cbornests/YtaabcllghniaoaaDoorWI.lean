/- The program's token at a place. -/
import Derived.Test.YtaabcllghniaoaaDoorWH
import Derived.Test.YtaabcllghniaoaaDoorWG
namespace Go.Proofs.YtaabcllghniaoaaDoor
open Go Go.RowKit
/-- A token, as a variable holds it. -/
def tkc (k n : Int) (v : Value) : Array Value := #[.int .i64 k, .int .i64 n, v]
theorem tkc_info (k n : Int) (v : Value) : (Tryd.prog.info? 45).map (·.size) = some (tkc k n v).size := tok_size3
theorem tkc_le (k n k' n' : Int) (v v' : Value) : 0 + (tkc k n v).size ≤ (tkc k' n' v').size := Nat.le_refl 3
theorem tkc_one (k n : Int) (a : Option Addr) (l c : Nat) : (tkc k n (.slice a l c)).all (·.oneCell') = true := by
  unfold tkc
  rw [Array.all_eq_true']
  intro v hv
  simp at hv
  rcases hv with rfl | rfl | rfl <;> rfl
theorem results_own3 {P : Program} {fn : Func} {p u v : Tmp} {ty : TypeId} (h : fn.results = #[.cell p ty, .tmp u, .tmp v]) (tmps : Array Value) (w : World) (b : Nat) (A : Array Value) (d : TypeDesc)
    (hp : tmps.getD p undef = .pointer (some ⟨b, 0, none⟩)) {t : TypeId} (ho : Own w b A t) (hu : P.underlying ty = some d) (hd : d.isRow = true) (hi : (P.info? ty).map (·.size) = some A.size) :
    (results fn tmps).run P w = .ok (.tuple #[.agg A, tmps.getD u undef, tmps.getD v undef]) w := by
  have := run_loadVar_mid w b 0 ty A.toList d ho.range hu hd (by simpa using hi)
  have h1 : (results fn tmps).run P w = ((asAddr (tmps.getD p undef)).run P w).andThen fun a w₁ => ((loadVar ty a).run P w₁).andThen fun x w₂ => .ok (.tuple #[x, tmps.getD u undef, tmps.getD v undef]) w₂ := by
    simp only [results, h]
    simp [Sem.run_bind, Result.andThen]
  rw [h1, hp]
  simp [asAddr, this]
/-- What a token at a place tells. -/
def TokAns (w w' : World) (m : List Int) (q : Nat) (e : Ending) : Prop :=
  (ftok (m.drop q) = none ∧ e = .returned (.tuple #[.agg (tkc 0 0 (.slice none 0 0)), .int .i64 0, .bool false]) ∧ Below w.heap.size w w') ∨
  ∃ t r u, ftok (m.drop q) = some (t, r) ∧ t.wf ∧ e = .returned (.tuple #[.agg (tkc t.k t.n u), .int .i64 ((m.length - r.length : Nat) : Int), .bool true]) ∧ Tx w' u t.b ∧ (∀ g ∈ blks u, w.heap.size ≤ g ∧ g < w'.heap.size) ∧ Below w.heap.size w w'
theorem hgetR_at {m : List Int} {q : Nat} (hq : q < m.length) : hgetR m (q : Int) = match hget (m.drop q) with
    | none => (0, 0, 0, 3)
    | some (major, n, k) => ((major : Int), (n : Int), (q : Int) + (k : Int), 0) := by
  unfold hgetR; rw [if_neg (by omega), Int.toNat_natCast]; cases hget (m.drop q) <;> rfl
set_option maxRecDepth 100000 in
set_option maxHeartbeats 2000000 in
theorem wtoken_is {w : World} {a : Option Addr} {cap : Nat} {m : List Int} (hm : Txt w a cap m) (hl : m.length ≤ 32768) {q : Nat} (hq : q < m.length) : Calls Tryd.prog 24 #[.slice a m.length cap, .int .i64 q] w fun e w' => TokAns w w' m q e := by
  have bm : Bys m := hm.1.2.2.2.1
  have hget := show Hid _ from hed.get (q : Int) (by omega) (by omega) a cap m (by omega)
  have hq' : (q : Int) < (m.length : Int) := by omega
  have hq0 : (0 : Int) ≤ (q : Int) := by omega
  have hml : (m.length : Int) ≤ 32768 := by omega
  have hO := own_new w (tkc 0 0 (.slice none 0 0)) 45
  have hB1 := alloc_below w (.cells (tkc 0 0 (.slice none 0 0)) 45)
  have hm1 := hm.below hB1
  obtain ⟨g, Hg⟩ : ∃ g, Hid (w.heap.size = g) := ⟨_, rfl⟩
  go_enter Tryd.func24, Tryd.ntmps24
  go_upto_region 1 with fail
  rw [Hg.out] at hO ⊢
  rw [show w.alloc (.cells #[.int .i64 0, .int .i64 0, .slice none 0 0] 45) = w.alloc (.cells (tkc 0 0 (.slice none 0 0)) 45) from rfl]
  generalize w.alloc (.cells (tkc 0 0 (.slice none 0 0)) 45) = w1 at hO hB1 hm1 ⊢
  have hcall := show Hid _ from hget.out w1 trivial hm1
  go_wp2_with fail
  refine Calls.mono (Hid.out hcall) ?_
  rintro e w2 ⟨rfl, hb2⟩
  have hB2 := hB1.trans (hb2.mono hB1.size)
  have hO2 := hO.below hb2 hO.lt
  have hm2 := hm1.below hb2
  rw [hgetR_at hq]
  clear hcall hget hO hB1 hm1
  have hfz := hO2.frozen 0
  have hgw : Hid (w.heap.size ≤ g) := Nat.le_of_eq Hg.out
  cases hh : Go.Proofs.YtaabcllghniaoaaDoor.hget (m.drop q) with
  | none =>
    have hno : Hid (ftok (m.drop q) = none) := by show _ = _; unfold ftok; rw [hh]
    simp only [got]
    clear hh
    go_wp2_with (refine wpList_store_own (op := { dst := none, op := _, type := _, pos := _, after := _, guard := _ }) rfl 45 (.tmp 4) (.tmp 20) rfl g 0 (tkc 0 0 (.slice none 0 0)) (by rfl) (by rfl) hO2 (tkc_le _ _ _ _ _ _) (tkc_info _ _ _) (tkc_one _ _ _ _ _) (by rfl) ?_)
    exact bodyPost_ret (results_own3 Tryd.results24 _ _ g (tkc 0 0 (.slice none 0 0)) _ (by rfl) (own_setCells hO2 rfl) Tryd.underlying45 rfl (tkc_info _ _ _)) rfl (.inl ⟨hno.out, rfl, Below.setCells _ _ _ _ hgw.out hB2⟩)
  | some p =>
    obtain ⟨mj, n, k⟩ := p
    obtain ⟨hn, hk, -, hkl, h7⟩ := hget_some hh fun z hz => bm z (List.mem_of_mem_drop hz)
    simp only [got]
    obtain ⟨p, Hp⟩ : ∃ p, Hid (q + k = p) := ⟨_, rfl⟩
    have hpe : (q : Int) + (k : Int) = (p : Int) := by have := Hp.out; omega
    rw [hpe]
    have hpm : Hid (p ≤ m.length) := by show _ ≤ _; rw [List.length_drop] at hkl; have := Hp.out; omega
    have hp0 : (0 : Int) ≤ (p : Int) := by omega
    have hpm' : (p : Int) ≤ (m.length : Int) := by have := hpm.out; omega
    have hqk : Hid (q + k ≤ m.length) := by show _ ≤ _; rw [List.length_drop] at hkl; omega
    have hn0 : (0 : Int) ≤ (n : Int) := by omega
    have hn1 : (n : Int) ≤ 9223372036854775807 := by omega
    clear hpe
    have hfd := show Hid _ from hh
    have hn := show Hid _ from hn
    clear hh hk hkl
    have hmj : mj = 0 ∨ mj = 1 ∨ mj = 2 ∨ mj = 3 ∨ mj = 4 ∨ mj = 5 ∨ mj = 6 ∨ mj = 7 := by omega
    clear h7
    obtain ⟨y0, y1, y2⟩ := own_three hO2
    rcases hmj with rfl | rfl | rfl | rfl | rfl | rfl | rfl | rfl
    · have hyes : Hid (ftok (m.drop q) = some (⟨1, n, []⟩, (m.drop q).drop k)) := by show _ = _; unfold ftok; rw [hfd.out]; rfl
      have hrest : Hid (m.length - ((m.drop q).drop k).length = q + k) := by show _ = _; rw [List.length_drop, List.length_drop]; have := hqk.out; omega
      go_upto_region 5 with fail
      have hO3 : Own (w2.setCell ⟨g, 0, none⟩ (.int .i64 1)) g (tkc 1 0 (.slice none 0 0)) 45 := hO2.setCell 0 (.int .i64 1)
      have hB3 := below_grown hB2 (grown_setCell w2 g 0 (.int .i64 1)) hB2.size hgw.out
      generalize w2.setCell ⟨g, 0, none⟩ (.int .i64 1) = w3 at hO3 hB3 ⊢
      obtain ⟨c0, c1, c2⟩ := own_three hO3
      have hfz := hO3.frozen 1
      go_upto_region 11 with fail
      have hO4 : Own (w3.setCell ⟨g, 1, none⟩ (.int .i64 n)) g (tkc 1 n (.slice none 0 0)) 45 := hO3.setCell 1 (.int .i64 n)
      have hB4 := below_grown hB3 (grown_setCell w3 g 1 (.int .i64 n)) hB3.size hgw.out
      generalize w3.setCell ⟨g, 1, none⟩ (.int .i64 n) = w4 at hO4 hB4 ⊢
      clear c0 c1 c2 hfz
      go_wp2_with (first | refine wpList_load_own (by rfl) 45 (.tmp 4) (by rfl) g (by rfl) (tkc 1 n (.slice none 0 0)) _ hO4 Tryd.underlying45 (by rfl) (tkc_info _ _ _) ?_ | refine wpList_store_own (op := { dst := none, op := _, type := _, pos := _, after := _, guard := _ }) rfl 45 (.tmp 4) (.tmp 33) rfl g 0 (tkc 1 n (.slice none 0 0)) (by rfl) (by rfl) hO4 (tkc_le _ _ _ _ _ _) (tkc_info _ _ _) (tkc_one _ _ _ _ _) (by rfl) ?_)
      refine bodyPost_ret (results_own3 Tryd.results24 _ _ g (tkc 1 n (.slice none 0 0)) _ (by rfl) (own_setCells hO4 rfl) Tryd.underlying45 rfl (tkc_info _ _ _)) rfl (.inr ⟨⟨1, n, []⟩, _, .slice none 0 0, hyes.out, ⟨⟨by show (-9223372036854775808 : Int) ≤ 1; decide, by show (1 : Int) < 9223372036854775808; decide⟩, by show (-9223372036854775808 : Int) ≤ (n : Int); omega, by show (n : Int) < 9223372036854775808; have := hn.out; omega⟩, ?_, ⟨none, 0, rfl, txt_nil _⟩, fun z hz => (by cases hz), Below.setCells _ _ _ _ hgw.out hB4⟩)
      rw [hrest.out, Hp.out]
      rfl
    · have hyes : Hid (ftok (m.drop q) = some (⟨2, n, []⟩, (m.drop q).drop k)) := by show _ = _; unfold ftok; rw [hfd.out]; rfl
      have hrest : Hid (m.length - ((m.drop q).drop k).length = q + k) := by show _ = _; rw [List.length_drop, List.length_drop]; have := hqk.out; omega
      go_upto_region 5 with fail
      have hO3 : Own (w2.setCell ⟨g, 0, none⟩ (.int .i64 2)) g (tkc 2 0 (.slice none 0 0)) 45 := hO2.setCell 0 (.int .i64 2)
      have hB3 := below_grown hB2 (grown_setCell w2 g 0 (.int .i64 2)) hB2.size hgw.out
      generalize w2.setCell ⟨g, 0, none⟩ (.int .i64 2) = w3 at hO3 hB3 ⊢
      obtain ⟨c0, c1, c2⟩ := own_three hO3
      have hfz := hO3.frozen 1
      go_upto_region 11 with fail
      have hO4 : Own (w3.setCell ⟨g, 1, none⟩ (.int .i64 n)) g (tkc 2 n (.slice none 0 0)) 45 := hO3.setCell 1 (.int .i64 n)
      have hB4 := below_grown hB3 (grown_setCell w3 g 1 (.int .i64 n)) hB3.size hgw.out
      generalize w3.setCell ⟨g, 1, none⟩ (.int .i64 n) = w4 at hO4 hB4 ⊢
      clear c0 c1 c2 hfz
      go_wp2_with (first | refine wpList_load_own (by rfl) 45 (.tmp 4) (by rfl) g (by rfl) (tkc 2 n (.slice none 0 0)) _ hO4 Tryd.underlying45 (by rfl) (tkc_info _ _ _) ?_ | refine wpList_store_own (op := { dst := none, op := _, type := _, pos := _, after := _, guard := _ }) rfl 45 (.tmp 4) (.tmp 33) rfl g 0 (tkc 2 n (.slice none 0 0)) (by rfl) (by rfl) hO4 (tkc_le _ _ _ _ _ _) (tkc_info _ _ _) (tkc_one _ _ _ _ _) (by rfl) ?_)
      refine bodyPost_ret (results_own3 Tryd.results24 _ _ g (tkc 2 n (.slice none 0 0)) _ (by rfl) (own_setCells hO4 rfl) Tryd.underlying45 rfl (tkc_info _ _ _)) rfl (.inr ⟨⟨2, n, []⟩, _, .slice none 0 0, hyes.out, ⟨⟨by show (-9223372036854775808 : Int) ≤ 2; decide, by show (2 : Int) < 9223372036854775808; decide⟩, by show (-9223372036854775808 : Int) ≤ (n : Int); omega, by show (n : Int) < 9223372036854775808; have := hn.out; omega⟩, ?_, ⟨none, 0, rfl, txt_nil _⟩, fun z hz => (by cases hz), Below.setCells _ _ _ _ hgw.out hB4⟩)
      rw [hrest.out, Hp.out]
      rfl
    · have hfe : Hid (ftok (m.drop q) = if (m.drop p).length < n then none else some (⟨3, 0, (m.drop p).take n⟩, (m.drop p).drop n)) := by
        show _ = _
        unfold ftok
        rw [hfd.out, ← Hp.out, ← List.drop_drop]
        rfl
      go_upto_region 5 with fail
      have hO3 : Own (w2.setCell ⟨g, 0, none⟩ (.int .i64 3)) g (tkc 3 0 (.slice none 0 0)) 45 := hO2.setCell 0 (.int .i64 3)
      have hB3 := below_grown hB2 (grown_setCell w2 g 0 (.int .i64 3)) hB2.size hgw.out
      generalize w2.setCell ⟨g, 0, none⟩ (.int .i64 3) = w3 at hO3 hB3 ⊢
      have hm3 := hm.below hB3
      obtain ⟨c0, c1, c2⟩ := own_three hO3
      by_cases hbig : m.length - p < n
      · have hbig' : (m.length : Int) - (p : Int) < (n : Int) := by have := hpm.out; omega
        have hno : Hid (ftok (m.drop q) = none) := by show _ = _; rw [hfe.out, if_pos (by rw [List.length_drop]; omega)]
        go_upto_region 15 with fail
        go_wp2_with (refine wpList_store_own (op := { dst := none, op := _, type := _, pos := _, after := _, guard := _ }) rfl 45 (.tmp 4) (.tmp 44) rfl g 0 (tkc 0 0 (.slice none 0 0)) (by rfl) (by rfl) hO3 (tkc_le _ _ _ _ _ _) (tkc_info _ _ _) (tkc_one _ _ _ _ _) (by rfl) ?_)
        exact bodyPost_ret (results_own3 Tryd.results24 _ _ g (tkc 0 0 (.slice none 0 0)) _ (by rfl) (own_setCells hO3 rfl) Tryd.underlying45 rfl (tkc_info _ _ _)) rfl (.inl ⟨hno.out, rfl, Below.setCells _ _ _ _ hgw.out hB3⟩)
      · have hbig' : ¬ (m.length : Int) - (p : Int) < (n : Int) := by have := hpm.out; omega
        have hyes : Hid (ftok (m.drop q) = some (⟨3, 0, (m.drop p).take n⟩, (m.drop p).drop n)) := by show _ = _; rw [hfe.out, if_neg (by rw [List.length_drop]; omega)]
        obtain ⟨z, Hz⟩ : ∃ z, Hid (p + n = z) := ⟨_, rfl⟩
        have hzc : (p : Int) + (n : Int) = (z : Int) := by have := Hz.out; omega
        have hpz : p ≤ z := by have := Hz.out; omega
        have hzm : z ≤ m.length := by have := Hz.out; have := hpm.out; omega
        have hrest : Hid (m.length - ((m.drop p).drop n).length = z) := by show _ = _; rw [List.length_drop, List.length_drop]; have := Hz.out; omega
        have hV := (hm3.1.drop p hpm.out).take n (by omega)
        have hbl : Hid (z - p = ((m.drop p).take n).length) := by show _ = _; rw [List.length_take, List.length_drop]; have := Hz.out; omega
        have hen : Hid (n = ((m.drop p).take n).length) := by show _ = _; rw [List.length_take, List.length_drop]; omega
        generalize (m.drop p).take n = bb at hyes hV hbl hen
        generalize (m.drop p).drop n = rr at hyes hrest
        rw [hen.out] at hV
        have hT : Txt w3 (cutAddr a cap p) (cap - p) bb := ⟨hV, fun e => by
          unfold cutAddr at e
          split at e
          · omega
          · cases a with
            | none => have := hm3.2 rfl; omega
            | some x => cases e⟩
        have hcap : z ≤ cap := Nat.le_trans hzm hm3.1.2.1
        have hbs : Hid (bb.length ≤ 1000000) := by show _ ≤ _; rw [← hbl.out]; omega
        have hclone := show Hid _ from clone_is hT hbs.out
        obtain ⟨ca, Hca⟩ : ∃ x, Hid (cutAddr a cap p = x) := ⟨_, rfl⟩
        obtain ⟨cc, Hcc⟩ : ∃ x, Hid (cap - p = x) := ⟨_, rfl⟩
        rw [Hca.out, Hcc.out] at hclone
        have hbb : Bys bb := hT.1.2.2.2.1
        clear hV hT
        go_upto_region 16 with fail
        go_wp2_with (refine wpList_slice_cut (by rfl) 25 (.tmp 45) (.tmp 46) (.tmp 49) (by rfl) 5 Tryd.underlying25 info5s a m.length cap p z (by rfl) (by rfl) (by rfl) hpz hcap ?_; rw [Hca.out, Hcc.out, hbl.out])
        refine Calls.mono (Hid.out hclone) ?_
        rintro e w4 ⟨a4, c4, rfl, hO4, hb4⟩
        have hB4 := hB3.trans (hb4.mono hB3.size)
        have hA4 := hO3.below hb4 hO3.lt
        have hT4 : Hid (Tx w4 (.slice a4 bb.length c4) bb) := ⟨a4, c4, rfl, (txt_same hO4 hbb).2⟩
        have hbk : Hid (∀ x ∈ blks (.slice a4 bb.length c4), w3.heap.size ≤ x ∧ x < w4.heap.size) := fun x hx => ⟨own_base hO4 hx, own_blk_lt hO4 x hx⟩
        have hgl := hO3.lt
        clear c0 c1 c2 hclone
        obtain ⟨c0, c1, c2⟩ := own_three hA4
        have hfz := hA4.frozen 2
        go_upto_region 17 with fail
        have hO5 : Own (w4.setCell ⟨g, 2, none⟩ (.slice a4 bb.length c4)) g (tkc 3 0 (.slice a4 bb.length c4)) 45 := hA4.setCell 2 (.slice a4 bb.length c4)
        have hgr := grown_setCell w4 g 2 (.slice a4 bb.length c4)
        have hB5 := below_grown hB4 hgr hB4.size hgw.out
        have hT5 := hT4.out.grown hgr (fun _ x e y hy => by cases e; have := hbk.out y hy; omega)
        have hs5 := hgr.size
        generalize w4.setCell ⟨g, 2, none⟩ (.slice a4 bb.length c4) = w5 at hO5 hB5 hT5 hs5 ⊢
        clear c0 c1 c2 hfz
        go_wp2_with (first | refine wpList_load_own (by rfl) 45 (.tmp 4) (by rfl) g (by rfl) (tkc 3 0 (.slice a4 bb.length c4)) _ hO5 Tryd.underlying45 (by rfl) (tkc_info _ _ _) ?_ | refine wpList_store_own (op := { dst := none, op := _, type := _, pos := _, after := _, guard := _ }) rfl 45 (.tmp 4) (.tmp 53) rfl g 0 (tkc 3 0 (.slice a4 bb.length c4)) (by rfl) (by rfl) hO5 (tkc_le _ _ _ _ _ _) (tkc_info _ _ _) (tkc_one _ _ _ _ _) (by rfl) ?_)
        have hgs := grown_setCellsQ g (tkc 3 0 (.slice a4 bb.length c4)).toList 0 w5
        refine bodyPost_ret (results_own3 Tryd.results24 _ _ g (tkc 3 0 (.slice a4 bb.length c4)) _ (by rfl) (own_setCells hO5 rfl) Tryd.underlying45 rfl (tkc_info _ _ _)) rfl (.inr ⟨⟨3, 0, bb⟩, rr, .slice a4 bb.length c4, hyes.out, ⟨⟨by show (-9223372036854775808 : Int) ≤ 3; decide, by show (3 : Int) < 9223372036854775808; decide⟩, by show (-9223372036854775808 : Int) ≤ (0 : Int); decide, by show (0 : Int) < 9223372036854775808; decide⟩, ?_, hT5.grown hgs (fun _ x e y hy => by cases e; have := hbk.out y hy; omega), fun y hy => ⟨by have := (hbk.out y hy).1; have := hB3.size; omega, Nat.lt_of_lt_of_le (Nat.lt_of_lt_of_le (hbk.out y hy).2 hs5) hgs.size⟩, Below.setCells _ _ _ _ hgw.out hB5⟩)
        rw [hrest.out]
        rfl
    · have hfe : Hid (ftok (m.drop q) = if (m.drop p).length < n then none else some (⟨4, 0, (m.drop p).take n⟩, (m.drop p).drop n)) := by
        show _ = _
        unfold ftok
        rw [hfd.out, ← Hp.out, ← List.drop_drop]
        rfl
      go_upto_region 5 with fail
      have hO3 : Own (w2.setCell ⟨g, 0, none⟩ (.int .i64 4)) g (tkc 4 0 (.slice none 0 0)) 45 := hO2.setCell 0 (.int .i64 4)
      have hB3 := below_grown hB2 (grown_setCell w2 g 0 (.int .i64 4)) hB2.size hgw.out
      generalize w2.setCell ⟨g, 0, none⟩ (.int .i64 4) = w3 at hO3 hB3 ⊢
      have hm3 := hm.below hB3
      obtain ⟨c0, c1, c2⟩ := own_three hO3
      by_cases hbig : m.length - p < n
      · have hbig' : (m.length : Int) - (p : Int) < (n : Int) := by have := hpm.out; omega
        have hno : Hid (ftok (m.drop q) = none) := by show _ = _; rw [hfe.out, if_pos (by rw [List.length_drop]; omega)]
        go_upto_region 15 with fail
        go_wp2_with (refine wpList_store_own (op := { dst := none, op := _, type := _, pos := _, after := _, guard := _ }) rfl 45 (.tmp 4) (.tmp 44) rfl g 0 (tkc 0 0 (.slice none 0 0)) (by rfl) (by rfl) hO3 (tkc_le _ _ _ _ _ _) (tkc_info _ _ _) (tkc_one _ _ _ _ _) (by rfl) ?_)
        exact bodyPost_ret (results_own3 Tryd.results24 _ _ g (tkc 0 0 (.slice none 0 0)) _ (by rfl) (own_setCells hO3 rfl) Tryd.underlying45 rfl (tkc_info _ _ _)) rfl (.inl ⟨hno.out, rfl, Below.setCells _ _ _ _ hgw.out hB3⟩)
      · have hbig' : ¬ (m.length : Int) - (p : Int) < (n : Int) := by have := hpm.out; omega
        have hyes : Hid (ftok (m.drop q) = some (⟨4, 0, (m.drop p).take n⟩, (m.drop p).drop n)) := by show _ = _; rw [hfe.out, if_neg (by rw [List.length_drop]; omega)]
        obtain ⟨z, Hz⟩ : ∃ z, Hid (p + n = z) := ⟨_, rfl⟩
        have hzc : (p : Int) + (n : Int) = (z : Int) := by have := Hz.out; omega
        have hpz : p ≤ z := by have := Hz.out; omega
        have hzm : z ≤ m.length := by have := Hz.out; have := hpm.out; omega
        have hrest : Hid (m.length - ((m.drop p).drop n).length = z) := by show _ = _; rw [List.length_drop, List.length_drop]; have := Hz.out; omega
        have hV := (hm3.1.drop p hpm.out).take n (by omega)
        have hbl : Hid (z - p = ((m.drop p).take n).length) := by show _ = _; rw [List.length_take, List.length_drop]; have := Hz.out; omega
        have hen : Hid (n = ((m.drop p).take n).length) := by show _ = _; rw [List.length_take, List.length_drop]; omega
        generalize (m.drop p).take n = bb at hyes hV hbl hen
        generalize (m.drop p).drop n = rr at hyes hrest
        rw [hen.out] at hV
        have hT : Txt w3 (cutAddr a cap p) (cap - p) bb := ⟨hV, fun e => by
          unfold cutAddr at e
          split at e
          · omega
          · cases a with
            | none => have := hm3.2 rfl; omega
            | some x => cases e⟩
        have hcap : z ≤ cap := Nat.le_trans hzm hm3.1.2.1
        have hbs : Hid (bb.length ≤ 1000000) := by show _ ≤ _; rw [← hbl.out]; omega
        have hclone := show Hid _ from clone_is hT hbs.out
        obtain ⟨ca, Hca⟩ : ∃ x, Hid (cutAddr a cap p = x) := ⟨_, rfl⟩
        obtain ⟨cc, Hcc⟩ : ∃ x, Hid (cap - p = x) := ⟨_, rfl⟩
        rw [Hca.out, Hcc.out] at hclone
        have hbb : Bys bb := hT.1.2.2.2.1
        clear hV hT
        go_upto_region 16 with fail
        go_wp2_with (refine wpList_slice_cut (by rfl) 25 (.tmp 45) (.tmp 46) (.tmp 49) (by rfl) 5 Tryd.underlying25 info5s a m.length cap p z (by rfl) (by rfl) (by rfl) hpz hcap ?_; rw [Hca.out, Hcc.out, hbl.out])
        refine Calls.mono (Hid.out hclone) ?_
        rintro e w4 ⟨a4, c4, rfl, hO4, hb4⟩
        have hB4 := hB3.trans (hb4.mono hB3.size)
        have hA4 := hO3.below hb4 hO3.lt
        have hT4 : Hid (Tx w4 (.slice a4 bb.length c4) bb) := ⟨a4, c4, rfl, (txt_same hO4 hbb).2⟩
        have hbk : Hid (∀ x ∈ blks (.slice a4 bb.length c4), w3.heap.size ≤ x ∧ x < w4.heap.size) := fun x hx => ⟨own_base hO4 hx, own_blk_lt hO4 x hx⟩
        have hgl := hO3.lt
        clear c0 c1 c2 hclone
        obtain ⟨c0, c1, c2⟩ := own_three hA4
        have hfz := hA4.frozen 2
        go_upto_region 17 with fail
        have hO5 : Own (w4.setCell ⟨g, 2, none⟩ (.slice a4 bb.length c4)) g (tkc 4 0 (.slice a4 bb.length c4)) 45 := hA4.setCell 2 (.slice a4 bb.length c4)
        have hgr := grown_setCell w4 g 2 (.slice a4 bb.length c4)
        have hB5 := below_grown hB4 hgr hB4.size hgw.out
        have hT5 := hT4.out.grown hgr (fun _ x e y hy => by cases e; have := hbk.out y hy; omega)
        have hs5 := hgr.size
        generalize w4.setCell ⟨g, 2, none⟩ (.slice a4 bb.length c4) = w5 at hO5 hB5 hT5 hs5 ⊢
        clear c0 c1 c2 hfz
        go_wp2_with (first | refine wpList_load_own (by rfl) 45 (.tmp 4) (by rfl) g (by rfl) (tkc 4 0 (.slice a4 bb.length c4)) _ hO5 Tryd.underlying45 (by rfl) (tkc_info _ _ _) ?_ | refine wpList_store_own (op := { dst := none, op := _, type := _, pos := _, after := _, guard := _ }) rfl 45 (.tmp 4) (.tmp 53) rfl g 0 (tkc 4 0 (.slice a4 bb.length c4)) (by rfl) (by rfl) hO5 (tkc_le _ _ _ _ _ _) (tkc_info _ _ _) (tkc_one _ _ _ _ _) (by rfl) ?_)
        have hgs := grown_setCellsQ g (tkc 4 0 (.slice a4 bb.length c4)).toList 0 w5
        refine bodyPost_ret (results_own3 Tryd.results24 _ _ g (tkc 4 0 (.slice a4 bb.length c4)) _ (by rfl) (own_setCells hO5 rfl) Tryd.underlying45 rfl (tkc_info _ _ _)) rfl (.inr ⟨⟨4, 0, bb⟩, rr, .slice a4 bb.length c4, hyes.out, ⟨⟨by show (-9223372036854775808 : Int) ≤ 4; decide, by show (4 : Int) < 9223372036854775808; decide⟩, by show (-9223372036854775808 : Int) ≤ (0 : Int); decide, by show (0 : Int) < 9223372036854775808; decide⟩, ?_, hT5.grown hgs (fun _ x e y hy => by cases e; have := hbk.out y hy; omega), fun y hy => ⟨by have := (hbk.out y hy).1; have := hB3.size; omega, Nat.lt_of_lt_of_le (Nat.lt_of_lt_of_le (hbk.out y hy).2 hs5) hgs.size⟩, Below.setCells _ _ _ _ hgw.out hB5⟩)
        rw [hrest.out]
        rfl
    · have hyes : Hid (ftok (m.drop q) = some (⟨5, n, []⟩, (m.drop q).drop k)) := by show _ = _; unfold ftok; rw [hfd.out]; rfl
      have hrest : Hid (m.length - ((m.drop q).drop k).length = q + k) := by show _ = _; rw [List.length_drop, List.length_drop]; have := hqk.out; omega
      go_upto_region 5 with fail
      have hO3 : Own (w2.setCell ⟨g, 0, none⟩ (.int .i64 5)) g (tkc 5 0 (.slice none 0 0)) 45 := hO2.setCell 0 (.int .i64 5)
      have hB3 := below_grown hB2 (grown_setCell w2 g 0 (.int .i64 5)) hB2.size hgw.out
      generalize w2.setCell ⟨g, 0, none⟩ (.int .i64 5) = w3 at hO3 hB3 ⊢
      obtain ⟨c0, c1, c2⟩ := own_three hO3
      have hfz := hO3.frozen 1
      go_upto_region 11 with fail
      have hO4 : Own (w3.setCell ⟨g, 1, none⟩ (.int .i64 n)) g (tkc 5 n (.slice none 0 0)) 45 := hO3.setCell 1 (.int .i64 n)
      have hB4 := below_grown hB3 (grown_setCell w3 g 1 (.int .i64 n)) hB3.size hgw.out
      generalize w3.setCell ⟨g, 1, none⟩ (.int .i64 n) = w4 at hO4 hB4 ⊢
      clear c0 c1 c2 hfz
      go_wp2_with (first | refine wpList_load_own (by rfl) 45 (.tmp 4) (by rfl) g (by rfl) (tkc 5 n (.slice none 0 0)) _ hO4 Tryd.underlying45 (by rfl) (tkc_info _ _ _) ?_ | refine wpList_store_own (op := { dst := none, op := _, type := _, pos := _, after := _, guard := _ }) rfl 45 (.tmp 4) (.tmp 33) rfl g 0 (tkc 5 n (.slice none 0 0)) (by rfl) (by rfl) hO4 (tkc_le _ _ _ _ _ _) (tkc_info _ _ _) (tkc_one _ _ _ _ _) (by rfl) ?_)
      refine bodyPost_ret (results_own3 Tryd.results24 _ _ g (tkc 5 n (.slice none 0 0)) _ (by rfl) (own_setCells hO4 rfl) Tryd.underlying45 rfl (tkc_info _ _ _)) rfl (.inr ⟨⟨5, n, []⟩, _, .slice none 0 0, hyes.out, ⟨⟨by show (-9223372036854775808 : Int) ≤ 5; decide, by show (5 : Int) < 9223372036854775808; decide⟩, by show (-9223372036854775808 : Int) ≤ (n : Int); omega, by show (n : Int) < 9223372036854775808; have := hn.out; omega⟩, ?_, ⟨none, 0, rfl, txt_nil _⟩, fun z hz => (by cases hz), Below.setCells _ _ _ _ hgw.out hB4⟩)
      rw [hrest.out, Hp.out]
      rfl
    · have hyes : Hid (ftok (m.drop q) = some (⟨6, n, []⟩, (m.drop q).drop k)) := by show _ = _; unfold ftok; rw [hfd.out]; rfl
      have hrest : Hid (m.length - ((m.drop q).drop k).length = q + k) := by show _ = _; rw [List.length_drop, List.length_drop]; have := hqk.out; omega
      go_upto_region 5 with fail
      have hO3 : Own (w2.setCell ⟨g, 0, none⟩ (.int .i64 6)) g (tkc 6 0 (.slice none 0 0)) 45 := hO2.setCell 0 (.int .i64 6)
      have hB3 := below_grown hB2 (grown_setCell w2 g 0 (.int .i64 6)) hB2.size hgw.out
      generalize w2.setCell ⟨g, 0, none⟩ (.int .i64 6) = w3 at hO3 hB3 ⊢
      obtain ⟨c0, c1, c2⟩ := own_three hO3
      have hfz := hO3.frozen 1
      go_upto_region 11 with fail
      have hO4 : Own (w3.setCell ⟨g, 1, none⟩ (.int .i64 n)) g (tkc 6 n (.slice none 0 0)) 45 := hO3.setCell 1 (.int .i64 n)
      have hB4 := below_grown hB3 (grown_setCell w3 g 1 (.int .i64 n)) hB3.size hgw.out
      generalize w3.setCell ⟨g, 1, none⟩ (.int .i64 n) = w4 at hO4 hB4 ⊢
      clear c0 c1 c2 hfz
      go_wp2_with (first | refine wpList_load_own (by rfl) 45 (.tmp 4) (by rfl) g (by rfl) (tkc 6 n (.slice none 0 0)) _ hO4 Tryd.underlying45 (by rfl) (tkc_info _ _ _) ?_ | refine wpList_store_own (op := { dst := none, op := _, type := _, pos := _, after := _, guard := _ }) rfl 45 (.tmp 4) (.tmp 33) rfl g 0 (tkc 6 n (.slice none 0 0)) (by rfl) (by rfl) hO4 (tkc_le _ _ _ _ _ _) (tkc_info _ _ _) (tkc_one _ _ _ _ _) (by rfl) ?_)
      refine bodyPost_ret (results_own3 Tryd.results24 _ _ g (tkc 6 n (.slice none 0 0)) _ (by rfl) (own_setCells hO4 rfl) Tryd.underlying45 rfl (tkc_info _ _ _)) rfl (.inr ⟨⟨6, n, []⟩, _, .slice none 0 0, hyes.out, ⟨⟨by show (-9223372036854775808 : Int) ≤ 6; decide, by show (6 : Int) < 9223372036854775808; decide⟩, by show (-9223372036854775808 : Int) ≤ (n : Int); omega, by show (n : Int) < 9223372036854775808; have := hn.out; omega⟩, ?_, ⟨none, 0, rfl, txt_nil _⟩, fun z hz => (by cases hz), Below.setCells _ _ _ _ hgw.out hB4⟩)
      rw [hrest.out, Hp.out]
      rfl
    · have hno : Hid (ftok (m.drop q) = none) := by show _ = _; unfold ftok; rw [hfd.out]; rfl
      go_upto_region 5 with fail
      have hO3 : Own (w2.setCell ⟨g, 0, none⟩ (.int .i64 7)) g (tkc 7 0 (.slice none 0 0)) 45 := hO2.setCell 0 (.int .i64 7)
      have hB3 := below_grown hB2 (grown_setCell w2 g 0 (.int .i64 7)) hB2.size hgw.out
      generalize w2.setCell ⟨g, 0, none⟩ (.int .i64 7) = w3 at hO3 hB3 ⊢
      obtain ⟨c0, c1, c2⟩ := own_three hO3
      go_upto_region 18 with fail
      go_wp2_with (refine wpList_store_own (op := { dst := none, op := _, type := _, pos := _, after := _, guard := _ }) rfl 45 (.tmp 4) (.tmp 57) rfl g 0 (tkc 0 0 (.slice none 0 0)) (by rfl) (by rfl) hO3 (tkc_le _ _ _ _ _ _) (tkc_info _ _ _) (tkc_one _ _ _ _ _) (by rfl) ?_)
      exact bodyPost_ret (results_own3 Tryd.results24 _ _ g (tkc 0 0 (.slice none 0 0)) _ (by rfl) (own_setCells hO3 rfl) Tryd.underlying45 rfl (tkc_info _ _ _)) rfl (.inl ⟨hno.out, rfl, Below.setCells _ _ _ _ hgw.out hB3⟩)
    · have hno : Hid (ftok (m.drop q) = none) := by show _ = _; unfold ftok; rw [hfd.out]; rfl
      go_upto_region 5 with fail
      have hO3 : Own (w2.setCell ⟨g, 0, none⟩ (.int .i64 8)) g (tkc 8 0 (.slice none 0 0)) 45 := hO2.setCell 0 (.int .i64 8)
      have hB3 := below_grown hB2 (grown_setCell w2 g 0 (.int .i64 8)) hB2.size hgw.out
      generalize w2.setCell ⟨g, 0, none⟩ (.int .i64 8) = w3 at hO3 hB3 ⊢
      obtain ⟨c0, c1, c2⟩ := own_three hO3
      go_upto_region 18 with fail
      go_wp2_with (refine wpList_store_own (op := { dst := none, op := _, type := _, pos := _, after := _, guard := _ }) rfl 45 (.tmp 4) (.tmp 57) rfl g 0 (tkc 0 0 (.slice none 0 0)) (by rfl) (by rfl) hO3 (tkc_le _ _ _ _ _ _) (tkc_info _ _ _) (tkc_one _ _ _ _ _) (by rfl) ?_)
      exact bodyPost_ret (results_own3 Tryd.results24 _ _ g (tkc 0 0 (.slice none 0 0)) _ (by rfl) (own_setCells hO3 rfl) Tryd.underlying45 rfl (tkc_info _ _ _)) rfl (.inl ⟨hno.out, rfl, Below.setCells _ _ _ _ hgw.out hB3⟩)
end Go.Proofs.YtaabcllghniaoaaDoor
