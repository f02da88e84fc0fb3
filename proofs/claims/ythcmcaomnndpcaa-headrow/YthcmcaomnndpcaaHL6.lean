/- The law HeadRow, over contracts. -/
import Derived.Test.YthcmcaomnndpcaaHL4
import Derived.Test.YthcmcaomnndpcaaTS
import Derived.Test.YthcmcaomnndpcaaRNI
import Derived.Deep.RegionWith
namespace Go.Proofs.Ythcmcaomnndpcaa
open Go Go.RowKit
theorem IntsV.below {w w' : World} {a : Option Addr} {len cap : Nat} {zs : List Int} (h : IntsV w a len cap zs) (hB : Below w.heap.size w w') : IntsV w' a len cap zs := by
  obtain ⟨h1, h2, h3, h4⟩ := h
  refine ⟨h1, h2, h3, fun i hi => ?_⟩
  obtain ⟨b, off, e, hc⟩ := h4 i hi
  exact ⟨b, off, e, by rw [hB.cell (World.block_lt_of_cell? w _ hc)]; exact hc⟩
theorem info3 : (Try.prog.info? 3).map (fun i => (i.zero, i.size, i.bytes)) = some (some (.int .i64 0), 1, 8) := by kernel_rfl
/-- A slice of whole numbers that the call itself has grown. -/
def OwnInts (w : World) (base : Nat) (v : Value) (xs : List Int) : Prop := w.ownsRow base 3 1 v xs.length (xs.map (Value.int .i64))
theorem ownInts_nil (w : World) (base : Nat) : OwnInts w base (.slice none 0 0) [] := ⟨rfl, .inl ⟨rfl, rfl⟩⟩
theorem OwnInts.below {w w' : World} {base : Nat} {v : Value} {xs : List Int} (h : OwnInts w base v xs) (hB : Below w.heap.size w w') : OwnInts w' base v xs := by
  obtain ⟨h1, h2 | ⟨g', cap, cur, h2, h3, h4, h5⟩⟩ := h
  · exact ⟨h1, .inl h2⟩
  · refine ⟨h1, .inr ⟨g', cap, cur, h2, h3, ?_, h5⟩⟩
    rw [hB.block g' (Array.getElem?_eq_some_iff.1 h4).1]; exact h4
theorem ints_base {w : World} {base g : Nat} {v : Value} {xs : List Int} (h : OwnInts w base v xs) (hg : v.ownBlock = some g) : base ≤ g := by
  obtain ⟨h1, ⟨rfl, _⟩ | ⟨g', cap, cur, rfl, h3, _⟩⟩ := h
  · cases hg
  · obtain rfl : g' = g := by simpa [Value.ownBlock] using hg
    exact h3
theorem ints_form {w : World} {base : Nat} {v : Value} {xs : List Int} (h : OwnInts w base v xs) : ∃ a c, v = .slice a xs.length c ∧ IntsV w a xs.length c xs := by
  obtain ⟨h1, ⟨h2, h3⟩ | ⟨g, cap, cur, h2, h3, h4, h5, h6, h7, h8⟩⟩ := h
  · obtain rfl := List.eq_nil_of_length_eq_zero h3
    exact ⟨none, 0, h2, rfl, Nat.le_refl _, by decide, fun i hi => absurd hi (Nat.not_lt_zero _)⟩
  · refine ⟨some ⟨g, 0, none⟩, cap, h2, rfl, h5, h6, fun i hi => ⟨g, 0, rfl, ?_⟩⟩
    rw [Nat.zero_add, cell_of_row w g i cur 3 (0, 0) h4]
    have h9 := congrArg (fun l => l[i]?) h8
    simp only [Nat.mul_one, List.getElem?_take, hi, if_pos, Array.getElem?_toList] at h9
    rw [h9]
    simp [hi, List.getD]
/-- append of one whole number onto such a slice. -/
theorem wpList_app_int {ops : Array Oper} {rest : List Oper} {o : Oper} {a : Act} {w : World} {Q : Exit → Act → World → Prop} (hgd : o.guard = none) (s x : Operand)
    (ho : o.op = .call { callee := .builtin .append, args := #[s, x], argTypes := #[36, 36] }) (base : Nat) {v : Value} {xs : List Int} (hs : a.eval s = v) (hown : OwnInts w base v xs)
    {g : Nat} {y : Int} (hx : a.eval x = .slice (some ⟨g, 0, none⟩) 1 1) (hy : w.cell? ⟨g, 0, none⟩ = some (.int .i64 y)) (hl : xs.length ≤ 1000000) (hbase : base ≤ w.heap.size)
    (h : ∀ a' c' w', OwnInts w' base (.slice a' (xs.length + 1) c') (xs ++ [y]) → w.grownBy w' v.ownBlock → wpList Try.prog ops Q rest (a.put o.dst (.slice a' (xs.length + 1) c')) w') :
    wpList Try.prog ops Q (o :: rest) a w := by
  obtain ⟨i, hi, hz, hsize, hby⟩ : ∃ i, Try.prog.info? 3 = some i ∧ i.zero = some (.int .i64 0) ∧ i.size = 1 ∧ i.bytes = 8 := by
    have := info3
    cases hq : Try.prog.info? 3 with
    | none => simp [hq] at this
    | some i => exact ⟨i, rfl, by simp [hq] at this; exact this⟩
  refine wpList_append_own_at (P := Try.prog) w hgd s x 36 ho base 3 i (.int .i64 0) 1 8 Try.underlying36 hi hz hsize hby rfl (by decide) v xs.length (xs.map (Value.int .i64)) hs hown ⟨g, 0, none⟩ 1 1 [.int .i64 y] hx rfl (fun j u hu => ?_) (fun u hu => by obtain rfl := List.mem_singleton.1 hu; rfl) (by unfold maxLen; omega) (by omega) hbase ?_
  · rcases j with _ | j
    · obtain rfl : Value.int .i64 y = u := by simpa using hu
      rw [Addr.add_mid]
      exact hy
    · simp at hu
  · intro v' w' h1 h2 _ _
    have h3 : OwnInts w' base v' (xs ++ [y]) := by
      unfold OwnInts
      rw [List.length_append, List.map_append]
      exact h1
    obtain ⟨a', c', rfl, -⟩ := ints_form h3
    rw [List.length_append] at h3 ⊢
    exact h a' c' w' h3 h2
theorem txt_grown {w w' : World} {a : Option Addr} {c : Nat} {m : List Int} {r : Option Nat} (h : Txt w a c m) (hg : w.grownBy w' r) (hne : ∀ x, a = some x → r ≠ some x.block) : Txt w' a c m := by
  obtain ⟨⟨h1, h2, h3, h4, h5⟩, h6⟩ := h
  refine ⟨⟨h1, h2, h3, h4, fun hp => ?_⟩, h6⟩
  obtain ⟨b, off, e, hr⟩ := h5 hp
  refine ⟨b, off, e, fun j v hv => ?_⟩
  have h7 := hr j v hv
  rw [World.cell?_of_block (hg.block b (World.block_lt_of_cell? w _ h7) (Ne.symm (hne _ e)))]
  exact h7
theorem ints_lt {w : World} {base g : Nat} {v : Value} {xs : List Int} (h : OwnInts w base v xs) (hg : v.ownBlock = some g) : g < w.heap.size := by
  obtain ⟨h1, ⟨rfl, _⟩ | ⟨g', cap, cur, rfl, h3, h4, _⟩⟩ := h
  · cases hg
  · obtain rfl : g' = g := by simpa [Value.ownBlock] using hg
    exact (Array.getElem?_eq_some_iff.1 h4).1
/-- What stands behind i heads. -/
def rowB (f : Nat → List Int) : Nat → List Int
  | 0 => []
  | i + 1 => rowB f i ++ f i
def endsB (f : Nat → List Int) (i : Nat) : List Int := (List.range i).map fun j => ((rowB f (j + 1)).length : Int)
theorem endsB_succ (f : Nat → List Int) (i : Nat) : endsB f (i + 1) = endsB f i ++ [((rowB f (i + 1)).length : Int)] := by
  unfold endsB
  rw [List.range_succ, List.map_append]
  rfl
theorem rowB_parts (f : Nat → List Int) (j : Nat) : ∀ q, j < q → ∃ r, rowB f q = rowB f j ++ (f j ++ r)
  | 0, h => absurd h (Nat.not_lt_zero _)
  | q + 1, h => by
    rcases Nat.lt_or_ge j q with h1 | h1
    · obtain ⟨r, e⟩ := rowB_parts f j q h1
      exact ⟨r ++ f q, by rw [rowB, e]; simp⟩
    · obtain rfl : j = q := by omega
      exact ⟨[], by rw [rowB, List.append_nil]⟩
theorem row_got {f : Nat → List Int} {j q mj n : Nat} (h : j < q) (hf : f j = hd mj n) (hn : n < 9223372036854775808) : hgetR (rowB f q) ((rowB f j).length : Int) = ((mj : Int), (n : Int), ((rowB f (j + 1)).length : Int), 0) := by
  obtain ⟨r, e⟩ := rowB_parts f j q h
  unfold hgetR
  have hl : (rowB f q).length = (rowB f j).length + ((1 + hsize n) + r.length) := by rw [e, List.length_append, List.length_append, hf, hd_length]
  rw [if_neg (by omega), Int.toNat_natCast, e, List.drop_left, hf, hget_hd hn]
  have h2 : (rowB f (j + 1)).length = (rowB f j).length + (1 + hsize n) := by rw [rowB, List.length_append, hf, hd_length]
  rw [h2]
  simp only [Prod.mk.injEq, true_and, and_true]
  omega
theorem row_end (m : List Int) : hgetR m (m.length : Int) = (0, 0, 0, 3) := by
  unfold hgetR
  rw [if_neg (by omega), Int.toNat_natCast, List.drop_length]
  rfl
theorem row_past (m : List Int) : hgetR m ((m.length : Int) + 1) = (0, 0, 0, 1) := by
  unfold hgetR
  rw [if_pos (by omega)]
theorem endsB_at (f : Nat → List Int) (q j : Nat) (h : j < q) : (endsB f q).getD j 0 = ((rowB f (j + 1)).length : Int) := by
  simp [endsB, List.getD, h]
theorem endsB_length (f : Nat → List Int) (i : Nat) : (endsB f i).length = i := by simp [endsB]
/-- What Put answers: a text of its own, and no error. -/
def putR (m : List Int) : Rel where
  r := fun w v => ∃ a c, v = .tuple #[.slice a m.length c, .int .i64 0] ∧ Txt w a c m
  loc := fun w w' v hg ⟨a, c, e, ⟨h1, h2, h3, h4, h5⟩, h6⟩ => by
    refine ⟨a, c, e, ⟨h1, h2, h3, h4, fun hp => ?_⟩, h6⟩
    obtain ⟨b, o, ea, hr⟩ := h5 hp
    exact ⟨b, o, ea, range_of_block (hg b (by rw [e, ea]; exact .head _)) hr⟩
def part (k : Nat) : Value → Value
  | .tuple vs => vs.getD k undef
  | _ => undef
theorem putR_own {w w' : World} {v : Value} {m : List Int} (h : OwnBytes w' w.heap.size v m) (hb : Bys m) : (putR m).r w' (.tuple #[v, .int .i64 0]) ∧ ∀ g ∈ blks (.tuple #[v, .int .i64 0]), w.heap.size ≤ g ∧ g < w'.heap.size := by
  obtain ⟨⟨a, c, rfl, ht⟩, hg⟩ := tx_own h hb
  refine ⟨⟨a, c, rfl, ht⟩, fun g hg' => hg g ?_⟩
  cases a with
  | none => cases hg'
  | some a => exact hg'
set_option maxRecDepth 100000 in
set_option maxHeartbeats 1000000 in
theorem hrow_is {T : World → Prop} (F : Hed T) {a a' : Option Addr} {la lb ca cb : Nat} {ms ns : List Int} (w : World) (hT : T w) (hm : IntsV w a la ca ms) (hn : IntsV w a' lb cb ns) : Calls Try.prog 7 #[.slice a la ca, .slice a' lb cb] w fun e w' => e = .returned (.bool true) ∧ Below w.heap.size w w' := by
  by_cases hl : 60 < la
  · have hl' : (60 : Int) < (la : Int) := by omega
    go_enter Try.func7, Try.ntmps7
    go_wp2_with fail
    go_ret
    exact ⟨rfl, Below.refl _ _⟩
  have hl' : (la : Int) ≤ 60 := by omega
  by_cases hl2 : 60 < lb
  · have hl2' : (60 : Int) < (lb : Int) := by omega
    go_enter Try.func7, Try.ntmps7
    go_wp2_with fail
    go_ret
    exact ⟨rfl, Below.refl _ _⟩
  have hl2' : (lb : Int) ≤ 60 := by omega
  clear hl hl2
  obtain ⟨maj, Hmaj⟩ : ∃ maj : Int → Nat, ∀ x, wrap64 ((IntKind.u64.wrap x).tmod 8) = (maj x : Int) ∧ maj x < 8 := ⟨fun x => (left_of x 8 (by decide) (by decide)).choose, fun x => (left_of x 8 (by decide) (by decide)).choose_spec⟩
  obtain ⟨num, Hnum⟩ : ∃ num : Int → Nat, ∀ x, bits .and .i64 x 9223372036854775807 = (num x : Int) ∧ num x < 9223372036854775808 := ⟨fun x => (and_max x).choose, fun x => (and_max x).choose_spec⟩
  obtain ⟨f, Hf⟩ : ∃ f : Nat → List Int, Hid (∀ i, f i = hd (maj (ms.getD i 0)) (num (ns.getD i 0))) := ⟨_, fun _ => rfl⟩
  have bRow : Hid (∀ k, Bys (rowB f k)) := fun k => by
    induction k with
    | zero => exact fun y hy => by cases hy
    | succ k ih => exact fun y hy => (List.mem_append.1 hy).elim (ih y) (fun h => by rw [Hf.out] at h; exact hd_bytes (by have := (Hmaj (ms.getD k 0)).2; omega) y h)
  have lRow : Hid (∀ k, (rowB f k).length ≤ 9 * k) := fun k => by
    induction k with
    | zero => exact Nat.le_refl _
    | succ k ih =>
      rw [rowB, List.length_append, Hf.out, hd_length]
      have := hsize_le (num (ns.getD k 0))
      omega
  replace Hmaj := show Hid _ from Hmaj
  replace Hnum := show Hid _ from Hnum
  by_cases hlt : lb < la
  · go_enter Try.func7, Try.ntmps7
    go_upto_region 7 with fail
    have hle : lb ≤ la := Nat.le_of_lt hlt
    obtain ⟨q, rfl⟩ : ∃ q, q = lb := ⟨_, rfl⟩
    have hq60 : q ≤ 60 := by omega
    go_loopw [5, 6, 8] (fun bv ev iv wr => ∃ (i : Nat) (ab ae : Option Addr) (c1 c2 : Nat), i ≤ q ∧ iv = .int .i64 (i : Int) ∧ bv = .slice ab (rowB f i).length c1 ∧ Txt wr ab c1 (rowB f i) ∧ ev = .slice ae i c2 ∧ OwnInts wr w.heap.size (.slice ae i c2) (endsB f i) ∧ Below w.heap.size w wr) (fun _ _ iv _ => q - (intOf iv).toNat)
    case atStart => exact ⟨0, none, none, 0, 0, Nat.zero_le _, rfl, rfl, txt_nil w, rfl, ownInts_nil _ _, Below.refl _ _⟩
    case round =>
      obtain ⟨i, ab, ae, c1, c2, hi, rfl, rfl, htx, rfl, hO, hb⟩ := hrel
      by_cases hlti : i < q
      · have hlti' : (i : Int) < (q : Int) := by omega
        have hi0 : (0 : Int) ≤ (i : Int) := by omega
        obtain ⟨bm, om, rfl, cm⟩ := (hm.below hb).2.2.2 i (by omega)
        obtain ⟨bn, on, rfl, cn⟩ := (hn.below hb).2.2.2 i (by omega)
        obtain ⟨x, Hx⟩ : ∃ x, Hid (ms.getD i 0 = x) := ⟨_, rfl⟩
        obtain ⟨y, Hy⟩ : ∃ y, Hid (ns.getD i 0 = y) := ⟨_, rfl⟩
        rw [Hx.out] at cm
        rw [Hy.out] at cn
        have hia : (i : Int) < (la : Int) := by omega
        have hib : (i : Int) < (q : Int) := by omega
        obtain ⟨e1, hm8⟩ := Hmaj.out x
        obtain ⟨e2, hn63⟩ := Hnum.out y
        replace hn63 := show Hid _ from hn63
        obtain ⟨B, HB⟩ : ∃ B, Hid ((rowB f i).length = B) := ⟨_, rfl⟩
        rw [HB.out]
        go_upto_region 9 with fail
        have hK := Kp.nil wr
        refine wp_region_lv 152 (fun _ => []) [.v (.slice ab B c1), .v (.slice (some ⟨bm, om, none⟩) la ca), .v (.int .i64 i), .v (.pointer (some ⟨bm, om + i, none⟩)), .v (.int .i64 x), .v (.int .u64 (IntKind.u64.wrap x)), .v (.int .u64 ((IntKind.u64.wrap x).tmod 8)), .v (.int .i64 (maj x)),
          .v (.slice (some ⟨bn, on, none⟩) q cb), .v (.int .i64 i), .v (.pointer (some ⟨bn, on + i, none⟩)), .v (.int .i64 y), .v (.int .i64 (num y)), .ow (putR (rowB f (i + 1))), .al 13, .fn 13 (part 0), .fn 13 (part 1), .fn 13 (part 0), .fn 13 (part 1)] hK (by kernel_rfl) (by kernel_rfl) (by kernel_rfl) (by rfl) ?_ ?_
        · refine .c (.p1 5 (.slice ab B c1)) <| .c (.p1 0 (.slice (some ⟨bm, om, none⟩) la ca)) <| .c (.p1 8 (.int .i64 i)) <| .c (.p2 45 (.slice (some ⟨bm, om, none⟩) la ca) 46 (.int .i64 i)) <| .c (.lc bm (om + i) (fun _ wq hk => by rw [hk.2.cell (World.block_lt_of_cell? wr _ cm)]; exact cm) load_i64) <| .c (.p1 48 (.int .i64 x)) <| .c (.p1 49 (.int .u64 (IntKind.u64.wrap x))) <| .c (.p1 50 (.int .u64 ((IntKind.u64.wrap x).tmod 8)) (h := by intro ac wc f9; have qq := getq f9; go_simp; have e9 := e1; unfold wrap64 at e9; rw [IntKind.wrap_i64]; omega)) <| .c (.p1 1 (.slice (some ⟨bn, on, none⟩) q cb)) <| .c (.p1 8 (.int .i64 i)) <| .c (.p2 52 (.slice (some ⟨bn, on, none⟩) q cb) 53 (.int .i64 i)) <| .c (.lc bn (on + i) (fun _ wq hk => by rw [hk.2.cell (World.block_lt_of_cell? wr _ cn)]; exact cn) load_i64) <| .c (.p1 55 (.int .i64 y)) <| .c (.co (fun _ => #[.slice ab B c1, .int .i64 (maj x), .int .i64 (num y)]) fun _ vs wq hA => ?_) <| .c (.id 13 57 ?_) <| .c (.pj 13 ?_) <| .c (.pj 13 ?_) <| .c (.pj 13 ?_) <| .c (.pj 13 ?_) .nil
          · have hB := hA.j.kp.2
            have hp := F.put (maj x) (num y) (by omega) hn63.out ab c1 (rowB f i) (by have := lRow.out i; omega) wq (F.keep _ _ hT (bel hb hB)) (htx.below hB)
            rw [HB.out] at hp
            refine hp.mono ?_
            rintro e w2 ⟨v, rfl, hO2, hb2⟩
            have hX : rowB f i ++ hd (maj x) (num y) = rowB f (i + 1) := by rw [rowB, Hf.out, Hx.out, Hy.out]
            rw [hX] at hO2
            obtain ⟨h1, h2⟩ := putR_own hO2 (bRow.out (i + 1))
            exact ⟨_, rfl, h1, h2, hb2⟩
          · intro _ vs wq aq hA hv
            have q57 := getq hv
            go_simp
          · intro _ vs wq aq hA he
            obtain ⟨hL, h14⟩ := hA.same 14
            obtain ⟨a3, c3, e3, -⟩ := hA.j.ow 13 _ rfl hL
            have h43 : aq.tmps.getD 43 undef = vs 13 := ((he (.tmp 43) (by simp [Op.operands])).trans (by kernel_rfl : _ = vs 14)).trans h14
            rw [e3] at h43 ⊢
            refine ⟨hL, ?_⟩
            have q43 := getq h43
            go_simp
            rfl
          · intro _ vs wq aq hA he
            obtain ⟨hL, h14⟩ := hA.same 14
            obtain ⟨a3, c3, e3, -⟩ := hA.j.ow 13 _ rfl hL
            have h43 : aq.tmps.getD 43 undef = vs 13 := ((he (.tmp 43) (by simp [Op.operands])).trans (by kernel_rfl : _ = vs 14)).trans h14
            rw [e3] at h43 ⊢
            refine ⟨hL, ?_⟩
            have q43 := getq h43
            go_simp
            rfl
          · intro _ vs wq aq hA he
            obtain ⟨hL, h15, -⟩ := hA.fnk 15
            have h58 : aq.tmps.getD 58 undef = part 0 (vs 13) := ((he (.tmp 58) (by simp [Op.operands])).trans (by kernel_rfl : _ = vs 15)).trans h15
            refine ⟨hL, ?_⟩
            have q58 := getq h58
            go_simp
          · intro _ vs wq aq hA he
            obtain ⟨hL, h16, -⟩ := hA.fnk 16
            have h59 : aq.tmps.getD 59 undef = part 1 (vs 13) := ((he (.tmp 59) (by simp [Op.operands])).trans (by kernel_rfl : _ = vs 16)).trans h16
            refine ⟨hL, ?_⟩
            have q59 := getq h59
            go_simp
        intro vs V1 hJ hf
        have hB1 := hJ.1.2
        obtain ⟨a3, c3, e13, ht3⟩ := hJ.ow 13 _ rfl rfl
        have hfr : ∀ x, a3 = some x → wr.heap.size ≤ x.block := fun x e => (hJ.fr 13 rfl (live_ow (T := _) rfl rfl) x.block (by rw [e13, e]; exact .head _)).1
        have h14 := (hJ.al 14 13 id rfl rfl).2
        have h15 := (hJ.al 15 13 (part 0) rfl rfl).2
        have h16 := (hJ.al 16 13 (part 1) rfl rfl).2
        have h17 := (hJ.al 17 13 (part 0) rfl rfl).2
        have h18 := (hJ.al 18 13 (part 1) rfl rfl).2
        rw [e13] at h14 h15 h16 h17 h18
        simp only [putL, Lv.val, Nat.zero_add, Nat.reduceAdd, e13, h14, h15, h16, h17, h18, id, Act.put, List.setIfInBounds_toArray, List.set_cons_succ, List.set_cons_zero]
        rw [show part 0 (.tuple #[.slice a3 (rowB f (i + 1)).length c3, .int .i64 0]) = .slice a3 (rowB f (i + 1)).length c3 from rfl, show part 1 (.tuple #[.slice a3 (rowB f (i + 1)).length c3, .int .i64 0]) = .int .i64 0 from rfl]
        clear hJ hf e13 h14 h15 h16 h17 h18
        clear vs
        have hlen3 : (rowB f i).length < (rowB f (i + 1)).length := by rw [rowB, List.length_append, Hf.out, hd_length]; omega
        have hl3 := lRow.out (i + 1)
        obtain ⟨C, HC⟩ : ∃ C, Hid ((rowB f (i + 1)).length = C) := ⟨_, rfl⟩
        rw [HC.out, HB.out] at hlen3
        rw [HC.out] at hl3 ⊢
        have hC1 : (C : Int) ≤ 10000 := by omega
        have hBC : ¬ (C : Int) ≤ (B : Int) := by omega
        have hOv := (hO.below hB1).below (alloc_below V1 (.cells #[.int .i64 (C : Int)] 3))
        have hBv := (bel hb hB1).alloc (bel hb hB1).size (.cells #[.int .i64 (C : Int)] 3)
        go_wp2_with (at_builtin; refine wpList_app_int (by rfl) (.tmp 70) (.tmp 73) (by rfl) w.heap.size (by rfl) hOv (g := V1.heap.size) (y := (C : Int)) (by rfl) ((own_new V1 #[.int .i64 (C : Int)] 3).cell rfl) (by rw [endsB_length]; omega) hBv.size ?_; intro a5 c5 w5 hO5 hg5; simp only [endsB_length] at hO5 ⊢)
        go_roundw
        case rel =>
          have hb5 := (Below.refl w.heap.size _).grown hg5 hBv.size (fun g e => ints_base hOv e)
          refine ⟨i + 1, a3, a5, c3, c5, hlti, by go_num, by rw [HC.out], ?_, rfl, ?_, hBv.trans hb5⟩
          · refine txt_grown (ht3.below (alloc_below V1 _)) hg5 fun x e e2 => ?_
            have h8 := ints_lt hO e2
            have h9 := hfr x e
            omega
          · rw [endsB_succ, HC.out]
            exact hO5
        case measure => simp [intOf]; omega
      · obtain rfl : i = q := by omega
        have hlti' : ¬ (i : Int) < (i : Int) := by omega
        obtain ⟨Z, HZ⟩ : ∃ Z, Hid (rowB f i = Z) := ⟨_, rfl⟩
        have hget : Hid (∀ (y : Int) (r : Int × Int × Int × Int) w2, hgetR Z y = r → -9223372036854775808 ≤ y → y < 9223372036854775808 → Below wr.heap.size wr w2 → Calls Try.prog 13 #[.slice ab Z.length c1, .int .i64 y] w2 fun e w' => e = .returned (got r) ∧ Below w2.heap.size w2 w') := fun y r w2 e h1 h2 hB => by
          subst e
          exact F.get y h1 h2 ab c1 Z (by have := lRow.out i; rw [HZ.out] at this; omega) w2 (F.keep _ _ hT (bel hb hB)) (by rw [← HZ.out]; exact htx.below hB)
        have hlZ : Z.length ≤ 540 := by have := lRow.out i; rw [HZ.out] at this; omega
        have hlZ' : (Z.length : Int) ≤ 540 := by omega
        rw [HZ.out]
        obtain ⟨ae2, ce2, eE, hE⟩ := ints_form hO
        rw [endsB_length] at eE hE
        simp only [Value.slice.injEq] at eE
        obtain ⟨rfl, -, rfl⟩ := eE
        go_upto_region 15 with fail
        go_loopw [11, 12] (fun av iv wq => ∃ j : Nat, j ≤ i ∧ iv = .int .i64 (j : Int) ∧ av = .int .i64 ((rowB f j).length : Int) ∧ Below wr.heap.size wr wq) (fun _ iv _ => i - (intOf iv).toNat)
        case atStart => exact ⟨0, Nat.zero_le _, rfl, rfl, Below.refl _ _⟩
        case round =>
          obtain ⟨j, hj, rfl, rfl, hbq⟩ := hrel
          by_cases hjl : j < i
          · have hjl' : (j : Int) < (i : Int) := by omega
            have hj0 : (0 : Int) ≤ (j : Int) := by omega
            have hjA : (j : Int) < (la : Int) := by omega
            have hjB : (j : Int) < (i : Int) := by omega
            obtain ⟨A, HA⟩ : ∃ A, Hid ((rowB f j).length = A) := ⟨_, rfl⟩
            obtain ⟨A2, HA2⟩ : ∃ A, Hid ((rowB f (j + 1)).length = A) := ⟨_, rfl⟩
            have hA9 := lRow.out j
            rw [HA.out] at hA9 ⊢
            obtain ⟨x, Hx⟩ : ∃ x, Hid (ms.getD j 0 = x) := ⟨_, rfl⟩
            obtain ⟨y, Hy⟩ : ∃ y, Hid (ns.getD j 0 = y) := ⟨_, rfl⟩
            obtain ⟨e1, hm8⟩ := Hmaj.out x
            obtain ⟨e2, hn63⟩ := Hnum.out y
            have hgr := row_got (f := f) (mj := maj x) (n := num y) hjl (by rw [Hf.out, Hx.out, Hy.out]) hn63
            rw [HZ.out, HA.out, HA2.out] at hgr
            replace hgr := show Hid _ from hgr
            clear hn63
            go_wp2_with fail
            refine Calls.mono (hget.out _ _ _ hgr.out (by omega) (by omega) hbq) ?_
            rintro e w4 ⟨rfl, hb4⟩
            unfold got
            have hbq4 := bel hbq hb4
            obtain ⟨bm, om, rfl, cm⟩ := (hm.below (bel hb hbq4)).2.2.2 j (by omega)
            obtain ⟨bn, on, rfl, cn⟩ := (hn.below (bel hb hbq4)).2.2.2 j (by omega)
            obtain ⟨be_, oe, rfl, ce⟩ := (hE.below hbq4).2.2.2 j (by omega)
            rw [Hx.out] at cm
            rw [Hy.out] at cn
            rw [endsB_at f i j hjl, HA2.out] at ce
            simp only []
            go_wp2_with fail
            go_roundw
            case rel => exact ⟨j + 1, hjl, by go_num, by rw [HA2.out], hbq4⟩
            case measure => simp [intOf]; omega
          · obtain rfl : j = i := by omega
            have hjl' : ¬ (j : Int) < (j : Int) := by omega
            rw [HZ.out]
            go_wp2_with fail
            refine Calls.mono (hget.out _ _ _ (row_end Z) (by omega) (by omega) hbq) ?_
            rintro e w4 ⟨rfl, hb4⟩
            unfold got
            have hbq4 := bel hbq hb4
            simp only []
            go_wp2_with fail
            refine Calls.mono (hget.out _ _ _ (row_past Z) (by omega) (by omega) hbq4) ?_
            rintro e w5 ⟨rfl, hb5⟩
            unfold got
            have hbq5 := bel hb (bel hbq4 hb5)
            simp only []
            go_wp2_with fail
            refine (hwakes F w5 (F.keep _ _ hT hbq5)).mono ?_
            rintro e w6 ⟨rfl, hb6⟩
            go_wp2_with fail
            go_ret
            exact ⟨rfl, bel hbq5 hb6⟩
  · go_enter Try.func7, Try.ntmps7
    go_upto_region 7 with fail
    have hle : la ≤ lb := Nat.le_of_not_lt hlt
    obtain ⟨q, rfl⟩ : ∃ q, q = la := ⟨_, rfl⟩
    have hq60 : q ≤ 60 := by omega
    go_loopw [5, 6, 8] (fun bv ev iv wr => ∃ (i : Nat) (ab ae : Option Addr) (c1 c2 : Nat), i ≤ q ∧ iv = .int .i64 (i : Int) ∧ bv = .slice ab (rowB f i).length c1 ∧ Txt wr ab c1 (rowB f i) ∧ ev = .slice ae i c2 ∧ OwnInts wr w.heap.size (.slice ae i c2) (endsB f i) ∧ Below w.heap.size w wr) (fun _ _ iv _ => q - (intOf iv).toNat)
    case atStart => exact ⟨0, none, none, 0, 0, Nat.zero_le _, rfl, rfl, txt_nil w, rfl, ownInts_nil _ _, Below.refl _ _⟩
    case round =>
      obtain ⟨i, ab, ae, c1, c2, hi, rfl, rfl, htx, rfl, hO, hb⟩ := hrel
      by_cases hlti : i < q
      · have hlti' : (i : Int) < (q : Int) := by omega
        have hi0 : (0 : Int) ≤ (i : Int) := by omega
        obtain ⟨bm, om, rfl, cm⟩ := (hm.below hb).2.2.2 i (by omega)
        obtain ⟨bn, on, rfl, cn⟩ := (hn.below hb).2.2.2 i (by omega)
        obtain ⟨x, Hx⟩ : ∃ x, Hid (ms.getD i 0 = x) := ⟨_, rfl⟩
        obtain ⟨y, Hy⟩ : ∃ y, Hid (ns.getD i 0 = y) := ⟨_, rfl⟩
        rw [Hx.out] at cm
        rw [Hy.out] at cn
        have hia : (i : Int) < (q : Int) := by omega
        have hib : (i : Int) < (lb : Int) := by omega
        obtain ⟨e1, hm8⟩ := Hmaj.out x
        obtain ⟨e2, hn63⟩ := Hnum.out y
        replace hn63 := show Hid _ from hn63
        obtain ⟨B, HB⟩ : ∃ B, Hid ((rowB f i).length = B) := ⟨_, rfl⟩
        rw [HB.out]
        go_upto_region 9 with fail
        have hK := Kp.nil wr
        refine wp_region_lv 152 (fun _ => []) [.v (.slice ab B c1), .v (.slice (some ⟨bm, om, none⟩) q ca), .v (.int .i64 i), .v (.pointer (some ⟨bm, om + i, none⟩)), .v (.int .i64 x), .v (.int .u64 (IntKind.u64.wrap x)), .v (.int .u64 ((IntKind.u64.wrap x).tmod 8)), .v (.int .i64 (maj x)),
          .v (.slice (some ⟨bn, on, none⟩) lb cb), .v (.int .i64 i), .v (.pointer (some ⟨bn, on + i, none⟩)), .v (.int .i64 y), .v (.int .i64 (num y)), .ow (putR (rowB f (i + 1))), .al 13, .fn 13 (part 0), .fn 13 (part 1), .fn 13 (part 0), .fn 13 (part 1)] hK (by kernel_rfl) (by kernel_rfl) (by kernel_rfl) (by rfl) ?_ ?_
        · refine .c (.p1 5 (.slice ab B c1)) <| .c (.p1 0 (.slice (some ⟨bm, om, none⟩) q ca)) <| .c (.p1 8 (.int .i64 i)) <| .c (.p2 45 (.slice (some ⟨bm, om, none⟩) q ca) 46 (.int .i64 i)) <| .c (.lc bm (om + i) (fun _ wq hk => by rw [hk.2.cell (World.block_lt_of_cell? wr _ cm)]; exact cm) load_i64) <| .c (.p1 48 (.int .i64 x)) <| .c (.p1 49 (.int .u64 (IntKind.u64.wrap x))) <| .c (.p1 50 (.int .u64 ((IntKind.u64.wrap x).tmod 8)) (h := by intro ac wc f9; have qq := getq f9; go_simp; have e9 := e1; unfold wrap64 at e9; rw [IntKind.wrap_i64]; omega)) <| .c (.p1 1 (.slice (some ⟨bn, on, none⟩) lb cb)) <| .c (.p1 8 (.int .i64 i)) <| .c (.p2 52 (.slice (some ⟨bn, on, none⟩) lb cb) 53 (.int .i64 i)) <| .c (.lc bn (on + i) (fun _ wq hk => by rw [hk.2.cell (World.block_lt_of_cell? wr _ cn)]; exact cn) load_i64) <| .c (.p1 55 (.int .i64 y)) <| .c (.co (fun _ => #[.slice ab B c1, .int .i64 (maj x), .int .i64 (num y)]) fun _ vs wq hA => ?_) <| .c (.id 13 57 ?_) <| .c (.pj 13 ?_) <| .c (.pj 13 ?_) <| .c (.pj 13 ?_) <| .c (.pj 13 ?_) .nil
          · have hB := hA.j.kp.2
            have hp := F.put (maj x) (num y) (by omega) hn63.out ab c1 (rowB f i) (by have := lRow.out i; omega) wq (F.keep _ _ hT (bel hb hB)) (htx.below hB)
            rw [HB.out] at hp
            refine hp.mono ?_
            rintro e w2 ⟨v, rfl, hO2, hb2⟩
            have hX : rowB f i ++ hd (maj x) (num y) = rowB f (i + 1) := by rw [rowB, Hf.out, Hx.out, Hy.out]
            rw [hX] at hO2
            obtain ⟨h1, h2⟩ := putR_own hO2 (bRow.out (i + 1))
            exact ⟨_, rfl, h1, h2, hb2⟩
          · intro _ vs wq aq hA hv
            have q57 := getq hv
            go_simp
          · intro _ vs wq aq hA he
            obtain ⟨hL, h14⟩ := hA.same 14
            obtain ⟨a3, c3, e3, -⟩ := hA.j.ow 13 _ rfl hL
            have h43 : aq.tmps.getD 43 undef = vs 13 := ((he (.tmp 43) (by simp [Op.operands])).trans (by kernel_rfl : _ = vs 14)).trans h14
            rw [e3] at h43 ⊢
            refine ⟨hL, ?_⟩
            have q43 := getq h43
            go_simp
            rfl
          · intro _ vs wq aq hA he
            obtain ⟨hL, h14⟩ := hA.same 14
            obtain ⟨a3, c3, e3, -⟩ := hA.j.ow 13 _ rfl hL
            have h43 : aq.tmps.getD 43 undef = vs 13 := ((he (.tmp 43) (by simp [Op.operands])).trans (by kernel_rfl : _ = vs 14)).trans h14
            rw [e3] at h43 ⊢
            refine ⟨hL, ?_⟩
            have q43 := getq h43
            go_simp
            rfl
          · intro _ vs wq aq hA he
            obtain ⟨hL, h15, -⟩ := hA.fnk 15
            have h58 : aq.tmps.getD 58 undef = part 0 (vs 13) := ((he (.tmp 58) (by simp [Op.operands])).trans (by kernel_rfl : _ = vs 15)).trans h15
            refine ⟨hL, ?_⟩
            have q58 := getq h58
            go_simp
          · intro _ vs wq aq hA he
            obtain ⟨hL, h16, -⟩ := hA.fnk 16
            have h59 : aq.tmps.getD 59 undef = part 1 (vs 13) := ((he (.tmp 59) (by simp [Op.operands])).trans (by kernel_rfl : _ = vs 16)).trans h16
            refine ⟨hL, ?_⟩
            have q59 := getq h59
            go_simp
        intro vs V1 hJ hf
        have hB1 := hJ.1.2
        obtain ⟨a3, c3, e13, ht3⟩ := hJ.ow 13 _ rfl rfl
        have hfr : ∀ x, a3 = some x → wr.heap.size ≤ x.block := fun x e => (hJ.fr 13 rfl (live_ow (T := _) rfl rfl) x.block (by rw [e13, e]; exact .head _)).1
        have h14 := (hJ.al 14 13 id rfl rfl).2
        have h15 := (hJ.al 15 13 (part 0) rfl rfl).2
        have h16 := (hJ.al 16 13 (part 1) rfl rfl).2
        have h17 := (hJ.al 17 13 (part 0) rfl rfl).2
        have h18 := (hJ.al 18 13 (part 1) rfl rfl).2
        rw [e13] at h14 h15 h16 h17 h18
        simp only [putL, Lv.val, Nat.zero_add, Nat.reduceAdd, e13, h14, h15, h16, h17, h18, id, Act.put, List.setIfInBounds_toArray, List.set_cons_succ, List.set_cons_zero]
        rw [show part 0 (.tuple #[.slice a3 (rowB f (i + 1)).length c3, .int .i64 0]) = .slice a3 (rowB f (i + 1)).length c3 from rfl, show part 1 (.tuple #[.slice a3 (rowB f (i + 1)).length c3, .int .i64 0]) = .int .i64 0 from rfl]
        clear hJ hf e13 h14 h15 h16 h17 h18
        clear vs
        have hlen3 : (rowB f i).length < (rowB f (i + 1)).length := by rw [rowB, List.length_append, Hf.out, hd_length]; omega
        have hl3 := lRow.out (i + 1)
        obtain ⟨C, HC⟩ : ∃ C, Hid ((rowB f (i + 1)).length = C) := ⟨_, rfl⟩
        rw [HC.out, HB.out] at hlen3
        rw [HC.out] at hl3 ⊢
        have hC1 : (C : Int) ≤ 10000 := by omega
        have hBC : ¬ (C : Int) ≤ (B : Int) := by omega
        have hOv := (hO.below hB1).below (alloc_below V1 (.cells #[.int .i64 (C : Int)] 3))
        have hBv := (bel hb hB1).alloc (bel hb hB1).size (.cells #[.int .i64 (C : Int)] 3)
        go_wp2_with (at_builtin; refine wpList_app_int (by rfl) (.tmp 70) (.tmp 73) (by rfl) w.heap.size (by rfl) hOv (g := V1.heap.size) (y := (C : Int)) (by rfl) ((own_new V1 #[.int .i64 (C : Int)] 3).cell rfl) (by rw [endsB_length]; omega) hBv.size ?_; intro a5 c5 w5 hO5 hg5; simp only [endsB_length] at hO5 ⊢)
        go_roundw
        case rel =>
          have hb5 := (Below.refl w.heap.size _).grown hg5 hBv.size (fun g e => ints_base hOv e)
          refine ⟨i + 1, a3, a5, c3, c5, hlti, by go_num, by rw [HC.out], ?_, rfl, ?_, hBv.trans hb5⟩
          · refine txt_grown (ht3.below (alloc_below V1 _)) hg5 fun x e e2 => ?_
            have h8 := ints_lt hO e2
            have h9 := hfr x e
            omega
          · rw [endsB_succ, HC.out]
            exact hO5
        case measure => simp [intOf]; omega
      · obtain rfl : i = q := by omega
        have hlti' : ¬ (i : Int) < (i : Int) := by omega
        obtain ⟨Z, HZ⟩ : ∃ Z, Hid (rowB f i = Z) := ⟨_, rfl⟩
        have hget : Hid (∀ (y : Int) (r : Int × Int × Int × Int) w2, hgetR Z y = r → -9223372036854775808 ≤ y → y < 9223372036854775808 → Below wr.heap.size wr w2 → Calls Try.prog 13 #[.slice ab Z.length c1, .int .i64 y] w2 fun e w' => e = .returned (got r) ∧ Below w2.heap.size w2 w') := fun y r w2 e h1 h2 hB => by
          subst e
          exact F.get y h1 h2 ab c1 Z (by have := lRow.out i; rw [HZ.out] at this; omega) w2 (F.keep _ _ hT (bel hb hB)) (by rw [← HZ.out]; exact htx.below hB)
        have hlZ : Z.length ≤ 540 := by have := lRow.out i; rw [HZ.out] at this; omega
        have hlZ' : (Z.length : Int) ≤ 540 := by omega
        rw [HZ.out]
        obtain ⟨ae2, ce2, eE, hE⟩ := ints_form hO
        rw [endsB_length] at eE hE
        simp only [Value.slice.injEq] at eE
        obtain ⟨rfl, -, rfl⟩ := eE
        go_upto_region 15 with fail
        go_loopw [11, 12] (fun av iv wq => ∃ j : Nat, j ≤ i ∧ iv = .int .i64 (j : Int) ∧ av = .int .i64 ((rowB f j).length : Int) ∧ Below wr.heap.size wr wq) (fun _ iv _ => i - (intOf iv).toNat)
        case atStart => exact ⟨0, Nat.zero_le _, rfl, rfl, Below.refl _ _⟩
        case round =>
          obtain ⟨j, hj, rfl, rfl, hbq⟩ := hrel
          by_cases hjl : j < i
          · have hjl' : (j : Int) < (i : Int) := by omega
            have hj0 : (0 : Int) ≤ (j : Int) := by omega
            have hjA : (j : Int) < (i : Int) := by omega
            have hjB : (j : Int) < (lb : Int) := by omega
            obtain ⟨A, HA⟩ : ∃ A, Hid ((rowB f j).length = A) := ⟨_, rfl⟩
            obtain ⟨A2, HA2⟩ : ∃ A, Hid ((rowB f (j + 1)).length = A) := ⟨_, rfl⟩
            have hA9 := lRow.out j
            rw [HA.out] at hA9 ⊢
            obtain ⟨x, Hx⟩ : ∃ x, Hid (ms.getD j 0 = x) := ⟨_, rfl⟩
            obtain ⟨y, Hy⟩ : ∃ y, Hid (ns.getD j 0 = y) := ⟨_, rfl⟩
            obtain ⟨e1, hm8⟩ := Hmaj.out x
            obtain ⟨e2, hn63⟩ := Hnum.out y
            have hgr := row_got (f := f) (mj := maj x) (n := num y) hjl (by rw [Hf.out, Hx.out, Hy.out]) hn63
            rw [HZ.out, HA.out, HA2.out] at hgr
            replace hgr := show Hid _ from hgr
            clear hn63
            go_wp2_with fail
            refine Calls.mono (hget.out _ _ _ hgr.out (by omega) (by omega) hbq) ?_
            rintro e w4 ⟨rfl, hb4⟩
            unfold got
            have hbq4 := bel hbq hb4
            obtain ⟨bm, om, rfl, cm⟩ := (hm.below (bel hb hbq4)).2.2.2 j (by omega)
            obtain ⟨bn, on, rfl, cn⟩ := (hn.below (bel hb hbq4)).2.2.2 j (by omega)
            obtain ⟨be_, oe, rfl, ce⟩ := (hE.below hbq4).2.2.2 j (by omega)
            rw [Hx.out] at cm
            rw [Hy.out] at cn
            rw [endsB_at f i j hjl, HA2.out] at ce
            simp only []
            go_wp2_with fail
            go_roundw
            case rel => exact ⟨j + 1, hjl, by go_num, by rw [HA2.out], hbq4⟩
            case measure => simp [intOf]; omega
          · obtain rfl : j = i := by omega
            have hjl' : ¬ (j : Int) < (j : Int) := by omega
            rw [HZ.out]
            go_wp2_with fail
            refine Calls.mono (hget.out _ _ _ (row_end Z) (by omega) (by omega) hbq) ?_
            rintro e w4 ⟨rfl, hb4⟩
            unfold got
            have hbq4 := bel hbq hb4
            simp only []
            go_wp2_with fail
            refine Calls.mono (hget.out _ _ _ (row_past Z) (by omega) (by omega) hbq4) ?_
            rintro e w5 ⟨rfl, hb5⟩
            unfold got
            have hbq5 := bel hb (bel hbq4 hb5)
            simp only []
            go_wp2_with fail
            refine (hwakes F w5 (F.keep _ _ hT hbq5)).mono ?_
            rintro e w6 ⟨rfl, hb6⟩
            go_wp2_with fail
            go_ret
            exact ⟨rfl, bel hbq5 hb6⟩
end Go.Proofs.Ythcmcaomnndpcaa
