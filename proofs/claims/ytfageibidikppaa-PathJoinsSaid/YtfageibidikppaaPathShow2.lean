/- Contracts of Show, the program's and the document's own: a path's text, or that it is none. -/
import Derived.Test.YtfageibidikppaaPathShow
namespace Go.Proofs.Ytfageibidikppaa
open Go.ChangeShapes Go.WideShapes Go.ChangeAt Go.RowKit
set_option linter.unusedVariables false
set_option linter.unusedSimpArgs false

/-- What Show answers. -/
def shV (a : Bool) (l : List ByteArray) (d : Bool) : ByteArray := if PM.valid a l d = true then PM.str (PM.text a l d) else ⟨#[]⟩
def shE (a : Bool) (l : List ByteArray) (d : Bool) : Int := if PM.valid a l d = true then 0 else 2

set_option maxHeartbeats 1000000 in
theorem rShow_any (a d : Bool) (ao : Option Addr) (n cap : Nat) (l : List ByteArray) (w : World) (h : SS w ao n cap l) (hf : Fit n l) :
    Calls Try.prog 16 #[.agg #[.bool a, .slice ao n cap, .bool d]] w fun e w' => e = .returned (.tuple #[.string (shV a l d), .int .i64 (shE a l d)]) ∧ Below w.heap.size w w' := by
  have bb : Below w.heap.size w (w.alloc (.cells #[.bool a, .slice ao n cap, .bool d] 25)) := (Below.refl _ _).alloc (Nat.le_refl _) _
  have s1 := h.alloc (.cells #[.bool a, .slice ao n cap, .bool d] 25)
  have p1 := PB.new w a (.slice ao n cap) d rfl
  have hR := Right_any a d ao n cap l _ s1 hf
  cases hv : PM.valid a l d with
  | false =>
    have e1 : Hid (shV a l d = ⟨#[]⟩ ∧ shE a l d = 2) := by unfold shV shE; rw [hv]; exact ⟨rfl, rfl⟩
    rw [hv] at hR
    have hR := W_hid hR
    clear hv
    go_enter Try.func16, Try.ntmps16
    go_wp2_with fail
    refine hR.out.mono ?_
    rintro e w1 ⟨rfl, bel1⟩
    go_wp2_with fail
    go_ret2
    exact ⟨by rw [e1.out.1, e1.out.2]; rfl, bb.trans (bel1.mono bb.size)⟩
  | true =>
    have e1 : Hid (shV a l d = PM.str (PM.text a l d) ∧ shE a l d = 0) := by unfold shV shE; rw [hv]; exact ⟨rfl, rfl⟩
    have ht : PM.tot l ≤ 1000000 := by have := PM.valid_tot hv; omega
    rw [hv] at hR
    have hR := W_hid hR
    have hF := W_hid (fun w h => form_any a d ao n cap l w h ht)
    clear hv
    go_enter Try.func16, Try.ntmps16
    go_wp2_with fail
    refine hR.out.mono ?_
    rintro e w1 ⟨rfl, bel1⟩
    have s2 := s1.below bel1 (Nat.le_refl _)
    have p2 := p1.below bel1 (by simp)
    have c0 := p2.c0
    have c1 := p2.c1
    have c2 := p2.c2
    clear p1 p2 s1
    go_wp2_with fail
    refine (hF.out _ s2).mono ?_
    rintro e w2 ⟨rfl, bel2⟩
    go_wp2_with fail
    go_ret2
    have b1 := bb.trans (bel1.mono bb.size)
    exact ⟨by rw [e1.out.1, e1.out.2]; rfl, b1.trans (bel2.mono b1.size)⟩

theorem info_byte : (Try.prog.info? 5).map (fun i => (i.zero, i.size, i.bytes)) = some (some (.int .u8 0), 1, 1) := by kernel_rfl

/-- 'append' of a string's bytes that have room. -/
theorem wpList_fits_str {P : Program} (w : World) {ops : Array Oper} {rest : List Oper} {o : Oper} {a : Act} {Q : Exit → Act → World → Prop}
    (hg : o.guard = none) (sl x : Operand) (t u : TypeId) (hop : o.op = Op.call { callee := Callee.builtin Builtin.append, args := #[sl, x], argTypes := #[t, u] })
    (base : Nat) (e : TypeId) (i : TypeInfo) (ht : P.underlying t = some (.slice e)) (hu : P.underlying u = some .string) (hi : P.info? e = some i) (hs1 : i.size = 1)
    (g k cap : Nat) (xs : List Value) (hs : a.eval sl = .slice (some ⟨g, 0, none⟩) k cap) (hown : w.ownsRow base e 1 (.slice (some ⟨g, 0, none⟩) k cap) k xs) (s : ByteArray) (hx : a.eval x = .string s) (b1 : k + s.size ≤ cap)
    (hK : ∀ w', w'.ownsRow base e 1 (.slice (some ⟨g, 0, none⟩) (k + s.size) cap) (k + s.size) (xs ++ Lib.strCells s) → w.grownBy w' (some g) → wpList P ops Q rest (a.put o.dst (.slice (some ⟨g, 0, none⟩) (k + s.size) cap)) w') :
    wpList P ops Q (o :: rest) a w := by
  rcases hown.2 with ⟨h', _⟩ | ⟨g', cap', cur, h', hbg, hgr, hnc, hcm, hcs, htake⟩
  · simp at h'
  · simp only [Value.slice.injEq, Option.some.injEq, Addr.mk.injEq, and_true, true_and] at h'
    obtain ⟨rfl, rfl⟩ := h'
    have hxl : xs.length = k := by simpa using hown.1
    have hcs' : cur.size = cap := by simpa using hcs
    have hrun := Lib.run_append_room_string (P := P) w t u o.type e i ht hu hi hs1 g k cap cur hgr s b1 (by omega)
    have hlen : (xs ++ Lib.strCells s).length = (k + s.size) * 1 := by rw [List.length_append, hxl, Lib.strCells_length, Nat.mul_one]
    have ht' : cur.toList.take k = xs := by simpa using htake
    refine wpList_plain hg fun K hK' => ?_
    unfold Oper.wp
    simp [execOp, hop, resolve, invoke, builtin, hs, hx, hrun, Result.andThen]
    refine hK' _ _ (hK _ ⟨hlen, .inr ⟨g, cap, _, rfl, hbg, setRow_heap w g cur _ e _ hgr, b1, hcm, ?_, ?_⟩⟩ ⟨rfl, rfl, rfl, by simp, fun j _ hj => setRow_other w g j _ (fun e => hj (by rw [e]))⟩)
    · simp only [List.size_toArray, List.length_append, List.length_take, List.length_drop, Array.length_toList, Lib.strCells_length]
      omega
    · show List.take ((k + s.size) * 1) (cur.toList.take k ++ (Lib.strCells s ++ cur.toList.drop (k + s.size))) = _
      rw [ht', ← hlen, ← List.append_assoc]
      exact List.take_left

/-- The text that is being made: it owns the bytes so far; the path and what was there are as they were. -/
def Text (w wr : World) (a : Bool) (v : Value) (d : Bool) (g m : Nat) (xs : List UInt8) : Prop :=
  wr.ownsRow (w.heap.size + 1) 5 1 (.slice (some ⟨g, 0, none⟩) m 256) m (cel xs) ∧ PB wr w.heap.size a v d ∧ Below w.heap.size w wr
theorem Text.byte {w wr w2 : World} {a d : Bool} {v : Value} {g m : Nat} {xs : List UInt8} {o : Obj} (h : Text w wr a v d g m xs) (hown : w2.ownsRow (w.heap.size + 1) 5 1 (.slice (some ⟨g, 0, none⟩) (m + 1) 256) (m + 1) (cel xs ++ [.int .u8 47])) (hg : (wr.alloc o).grownBy w2 (some g)) : Text w w2 a v d g (m + 1) (xs ++ [47]) := by
  obtain ⟨h1, h2, h3⟩ := h
  have hge := own_ge h1 g rfl
  refine ⟨by rw [cel_append]; exact hown, (h2.alloc _).grown hg (fun e => by have := Option.some.inj e; omega), (h3.alloc h3.size _).grown hg (by simp; have := h3.size; omega) (fun k hk => by have := Option.some.inj hk; omega)⟩
theorem Text.str {w wr w2 : World} {a d : Bool} {v : Value} {g m : Nat} {xs : List UInt8} {p : ByteArray} (h : Text w wr a v d g m xs) (hown : w2.ownsRow (w.heap.size + 1) 5 1 (.slice (some ⟨g, 0, none⟩) (m + p.size) 256) (m + p.size) (cel xs ++ Lib.strCells p)) (hg : wr.grownBy w2 (some g)) : Text w w2 a v d g (m + p.size) (xs ++ p.data.toList) := by
  obtain ⟨h1, h2, h3⟩ := h
  have hge := own_ge h1 g rfl
  refine ⟨by rw [cel_append]; exact hown, h2.grown hg (fun e => by have := Option.some.inj e; omega), h3.grown hg h3.size (fun k hk => by have := Option.some.inj hk; omega)⟩
theorem Text.len {w wr : World} {a d : Bool} {v : Value} {g m : Nat} {xs : List UInt8} (h : Text w wr a v d g m xs) : xs.length = m := by
  have := h.1.1; rw [cel_length] at this; omega
theorem Text.conv {w wr : World} {a d : Bool} {v : Value} {g m : Nat} {xs : List UInt8} (h : Text w wr a v d g m xs) : (convert 38 9 (.slice (some ⟨g, 0, none⟩) m 256)).run Try.prog wr = .ok (.string (strOf xs)) wr :=
  run_conv (P := Try.prog) 38 5 Try.underlying38 Try.underlying5 9 Try.underlying9 (BS_own h.1)

theorem headT_len (a : Bool) (l : List ByteArray) : (headT a l).length = (if a then 1 else 0) + (PM.tot l - 1) := by
  unfold headT; rw [List.length_append, PM.body_length]; cases a <;> rfl
theorem headT_take (a d : Bool) (l : List ByteArray) (k : Nat) (h : PM.valid a l d = true) : (headT a (l.take k)).length ≤ 256 ∧ (headT a l).length + (if d && decide (0 < l.length) then 1 else 0) ≤ 256 := by
  have h1 := PM.valid_len h
  have h2 := PM.tot_take l k
  rw [headT_len, headT_len]
  unfold PM.plen at h1
  cases a <;> simp only [if_true, Bool.false_eq_true, if_false] at h1 ⊢ <;> omega

set_option maxHeartbeats 2000000 in
theorem Show_any (a d : Bool) (ao : Option Addr) (n cap : Nat) (l : List ByteArray) (w : World) (h : SS w ao n cap l) (hf : Fit n l) :
    Calls Try.prog 15 #[.agg #[.bool a, .slice ao n cap, .bool d]] w fun e w' => e = .returned (.tuple #[.string (shV a l d), .int .i64 (shE a l d)]) ∧ Below w.heap.size w w' := by
  obtain ⟨i0, hi, hz0, hz1, hz2⟩ := info_parts info_byte
  have bb : Below w.heap.size w (w.alloc (.cells #[.bool a, .slice ao n cap, .bool d] 25)) := (Below.refl _ _).alloc (Nat.le_refl _) _
  have s1 := h.alloc (.cells #[.bool a, .slice ao n cap, .bool d] 25)
  have p1 := PB.new w a (.slice ao n cap) d rfl
  have hR := valid_any a d ao n cap l _ s1 hf
  have L := W_hid h.1
  have hn := hf.1
  cases hv : PM.valid a l d with
  | false =>
    have e1 : Hid (shV a l d = ⟨#[]⟩ ∧ shE a l d = 2) := by unfold shV shE; rw [hv]; exact ⟨rfl, rfl⟩
    rw [hv] at hR
    have hR := W_hid hR
    clear hv
    go_enter Try.func15, Try.ntmps15
    go_wp2_with fail
    refine hR.out.mono ?_
    rintro e w1 ⟨rfl, bel1⟩
    go_wp2_with fail
    go_ret2
    exact ⟨by rw [e1.out.1, e1.out.2]; rfl, bb.trans (bel1.mono bb.size)⟩
  | true =>
    have e1 : Hid (shV a l d = PM.str (PM.text a l d) ∧ shE a l d = 0) := by unfold shV shE; rw [hv]; exact ⟨rfl, rfl⟩
    have hlen := W_hid (fun k => headT_take a d l k hv)
    rw [hv] at hR
    have hR := W_hid hR
    clear hv
    cases a
    all_goals
      go_enter Try.func15, Try.ntmps15
      go_wp2_with fail
      refine hR.out.mono ?_
      rintro e w1 ⟨rfl, bel1⟩
      have p2 := p1.below bel1 (by simp)
      have c0 := p2.c0
      have c1 := p2.c1
      have c2 := p2.c2
      have b1 := bb.trans (bel1.mono bb.size)
      go_wp2_with (at_make; apply Hid.out)
      refine W_hid ?_
      refine wpList_make_own _ rfl _ _ 38 rfl (w.heap.size + 1) 5 i0 (.int .u8 0) 1 Try.underlying38 hi hz0 hz1 .i64 .i64 _ 256 rfl rfl (by omega) (by rw [hz2]; omega) (by unfold maxLen; omega) (by have := bel1.size; simp at this; omega) ?_
      intro w2 hown hgrow
      obtain ⟨g, hg⟩ : ∃ g, g = w1.heap.size := ⟨_, rfl⟩
      rw [← hg] at hown
      have htx : Text w w2 _ (.slice ao n cap) d g 0 [] := ⟨hown, p2.grown hgrow (by simp), b1.grown hgrow b1.size (fun k hk => by cases hk)⟩
      rw [← hg]
      clear hown hgrow bel1 b1 p2 c0 c1 c2 hg hR bb s1 p1
      replace htx := W_hid htx
      have c0 := htx.out.2.1.c0
      have c1 := htx.out.2.1.c1
      have c2 := htx.out.2.1.c2
    · replace htx := htx.out
      go_wp2_with fail
      clear c0 c1 c2
      go_loopw [4, 19] (fun v i wr => ∃ (k m : Nat), k ≤ n ∧ i = .int .i64 k ∧ v = .slice (some ⟨g, 0, none⟩) m 256 ∧ Text w wr false (.slice ao n cap) d g m (headT false (l.take k))) (fun _ i _ => n - (intOf i).toNat)
      case atStart => exact ⟨0, _, Nat.zero_le _, rfl, rfl, htx⟩
      case round =>
        obtain ⟨k, m, hk, rfl, rfl, htx⟩ := hrel
        have hm := htx.len
        have hm2 := (hlen.out k).1
        have hm3 := (hlen.out (k + 1)).1
        by_cases hlt : k < n
        · have k1 : k < l.length := by rw [L.out]; exact hlt
          obtain ⟨b1, o1, rfl, g1⟩ := (h.below htx.2.2 (Nat.le_refl _)).at_ (by omega)
          have e1 := g1 k hlt
          obtain ⟨p, hp1⟩ : ∃ p, l[k] = p := ⟨_, rfl⟩
          rw [hp1] at e1
          have hb1 : b1 < wr.heap.size := World.block_lt_of_cell? wr _ e1
          rw [PM.take_snoc l k k1, hp1, headT_snoc, List.length_append, List.length_append, List.length_take, Nat.min_eq_left (by omega), PM.list_size] at hm3
          have hnext : Hid (headT false (l.take (k + 1)) = headT false (l.take k) ++ ((if 0 < k then [47] else []) ++ p.data.toList)) := by
            show _ = _
            rw [PM.take_snoc l k k1, headT_snoc, hp1, List.length_take, Nat.min_eq_left (by omega)]
          have HG1 := W_hid g1
          have HP1 := W_hid hp1
          clear g1 hp1
          by_cases h0 : k = 0
          · subst h0
            simp only [Nat.lt_irrefl, if_false, List.length_nil, Nat.zero_add] at hm3
            rw [Nat.add_zero] at e1
            have hmm : m + p.size ≤ 256 := by omega
            have HM := W_hid hm
            clear hm hm2 hm3
            go_wp2_with (at_builtin; apply Hid.out)
            refine W_hid ?_
            refine wpList_fits_str _ rfl (.tmp 29) (.tmp 30) 38 9 rfl (w.heap.size + 1) 5 i0 Try.underlying38 Try.underlying9 hi hz1 g _ 256 _ rfl htx.1 p rfl hmm ?_
            intro w2 hown2 hgrow2
            replace htx := Text.str htx hown2 hgrow2
            clear hown2 hgrow2
            have htx2 : Hid (Text w w2 false (.slice (some ⟨b1, o1, none⟩) n cap) d g (m + p.size) (headT false (l.take 1))) := by
              have := hnext.out
              show Text _ _ _ _ _ _ _ _
              rw [this]; exact htx
            clear htx
            go_wp2
            go_roundw
            case rel => exact ⟨1, m + p.size, by omega, rfl, rfl, htx2.out⟩
            case measure => simp [intOf]; omega
          · have h0' : 0 < k := by omega
            have h1' : 0 < (k : Int) := by omega
            rw [if_pos h0'] at hm3
            have hmm : m + 1 + p.size ≤ 256 := by simp only [List.length_cons, List.length_nil] at hm3; omega
            have HM := W_hid hm
            clear hm hm2 hm3
            go_wp2_with (at_builtin; apply Hid.out)
            refine W_hid ?_
            refine wpList_append_fits _ rfl (.tmp 26) (.tmp 27) 38 rfl (w.heap.size + 1) 5 i0 1 Try.underlying38 hi hz1 g _ 256 _ rfl (htx.1.alloc _) ⟨_, 0, none⟩ 1 1 [.int .u8 47] rfl rfl (cell_one_new _ _ _) (by intro u hu; simp at hu; subst hu; rfl) (by omega) ?_
            intro w2 hown2 hgrow2
            replace htx := Text.byte htx hown2 hgrow2
            clear hown2 hgrow2
            have e1 : w2.cell? ⟨b1, o1 + k, none⟩ = some (.string p) := by
              have := ((h.below htx.2.2 (Nat.le_refl _)).at_ (by omega))
              obtain ⟨b2, o2, hb, g2⟩ := this
              injection hb with hb
              injection hb with q1 q2
              subst q1; subst q2
              have := g2 k hlt
              rwa [HP1.out] at this
            go_wp2_with (at_builtin; apply Hid.out)
            refine W_hid ?_
            refine wpList_fits_str _ rfl (.tmp 29) (.tmp 30) 38 9 rfl (w.heap.size + 1) 5 i0 Try.underlying38 Try.underlying9 hi hz1 g _ 256 _ rfl htx.1 p rfl hmm ?_
            intro w3 hown2 hgrow2
            replace htx := Text.str htx hown2 hgrow2
            clear hown2 hgrow2
            have htx2 : Hid (Text w w3 false (.slice (some ⟨b1, o1, none⟩) n cap) d g (m + 1 + p.size) (headT false (l.take (k + 1)))) := by
              have := hnext.out
              show Text _ _ _ _ _ _ _ _
              rw [this, if_pos h0', ← List.append_assoc]; exact htx
            clear htx
            go_wp2
            go_roundw
            case rel => exact ⟨k + 1, m + 1 + p.size, by omega, by go_num, rfl, htx2.out⟩
            case measure => simp [intOf]; omega
        · obtain rfl : k = n := by omega
          have hm4 := (hlen.out k).2
          rw [List.take_of_length_le (by rw [L.out]; exact Nat.le_refl _)] at htx hm
          have c0 := htx.2.1.c0
          have c1 := htx.2.1.c1
          have c2 := htx.2.1.c2
          rw [L.out] at hm4
          by_cases h0 : k = 0
          · subst h0
            have htext : Hid (PM.text false l d = headT false l) := by
              show _ = _
              rw [text_headT, L.out]; simp
            have hconv := htx.conv
            have bel := htx.2.2
            clear htx hm hm2 hm3 hm4
            cases d
            all_goals
              go_wp2_with fail
              go_ret2
              exact ⟨by rw [e1.out.1, e1.out.2, htext.out]; rfl, bel⟩
          · have h0' : 0 < k := by omega
            have h1' : 0 < (k : Int) := by omega
            cases d with
            | false =>
              have htext : Hid (PM.text false l false = headT false l) := by
                show _ = _
                rw [text_headT]; simp
              have hconv := htx.conv
              have bel := htx.2.2
              clear htx hm hm2 hm3 hm4
              go_wp2_with fail
              go_ret2
              exact ⟨by rw [e1.out.1, e1.out.2, htext.out]; rfl, bel⟩
            | true =>
              have htext : Hid (PM.text false l true = headT false l ++ [47]) := by
                show _ = _
                rw [text_headT, L.out]; simp [h0']
              have hmm : m + 1 ≤ 256 := by simp [h0'] at hm4; omega
              have HM := W_hid hm
              clear hm hm2 hm3 hm4
              go_wp2_with (at_builtin; apply Hid.out)
              refine W_hid ?_
              refine wpList_append_fits _ rfl (.tmp 41) (.tmp 42) 38 rfl (w.heap.size + 1) 5 i0 1 Try.underlying38 hi hz1 g _ 256 _ rfl (htx.1.alloc _) ⟨_, 0, none⟩ 1 1 [.int .u8 47] rfl rfl (cell_one_new _ _ _) (by intro u hu; simp at hu; subst hu; rfl) (by omega) ?_
              intro w2 hown2 hgrow2
              replace htx := Text.byte htx hown2 hgrow2
              clear hown2 hgrow2
              have hconv := htx.conv
              have bel := htx.2.2
              clear htx
              go_wp2_with fail
              go_ret2
              exact ⟨by rw [e1.out.1, e1.out.2, htext.out]; rfl, bel⟩
    · replace htx := htx.out
      go_wp2_with (at_builtin; apply Hid.out)
      refine W_hid ?_
      refine wpList_append_fits _ rfl (.tmp 13) (.tmp 14) 38 rfl (w.heap.size + 1) 5 i0 1 Try.underlying38 hi hz1 g _ 256 _ rfl (htx.1.alloc _) ⟨_, 0, none⟩ 1 1 [.int .u8 47] rfl rfl (cell_one_new _ _ _) (by intro u hu; simp at hu; subst hu; rfl) (by omega) ?_
      intro w2 hown2 hgrow2
      replace htx := Text.byte htx hown2 hgrow2
      clear hown2 hgrow2 c0 c1 c2
      have c0 := htx.2.1.c0
      have c1 := htx.2.1.c1
      have c2 := htx.2.1.c2
      go_wp2_with fail
      clear c0 c1 c2
      go_loopw [4, 19] (fun v i wr => ∃ (k m : Nat), k ≤ n ∧ i = .int .i64 k ∧ v = .slice (some ⟨g, 0, none⟩) m 256 ∧ Text w wr true (.slice ao n cap) d g m (headT true (l.take k))) (fun _ i _ => n - (intOf i).toNat)
      case atStart => exact ⟨0, _, Nat.zero_le _, rfl, rfl, htx⟩
      case round =>
        obtain ⟨k, m, hk, rfl, rfl, htx⟩ := hrel
        have hm := htx.len
        have hm2 := (hlen.out k).1
        have hm3 := (hlen.out (k + 1)).1
        by_cases hlt : k < n
        · have k1 : k < l.length := by rw [L.out]; exact hlt
          obtain ⟨b1, o1, rfl, g1⟩ := (h.below htx.2.2 (Nat.le_refl _)).at_ (by omega)
          have e1 := g1 k hlt
          obtain ⟨p, hp1⟩ : ∃ p, l[k] = p := ⟨_, rfl⟩
          rw [hp1] at e1
          have hb1 : b1 < wr.heap.size := World.block_lt_of_cell? wr _ e1
          rw [PM.take_snoc l k k1, hp1, headT_snoc, List.length_append, List.length_append, List.length_take, Nat.min_eq_left (by omega), PM.list_size] at hm3
          have hnext : Hid (headT true (l.take (k + 1)) = headT true (l.take k) ++ ((if 0 < k then [47] else []) ++ p.data.toList)) := by
            show _ = _
            rw [PM.take_snoc l k k1, headT_snoc, hp1, List.length_take, Nat.min_eq_left (by omega)]
          have HG1 := W_hid g1
          have HP1 := W_hid hp1
          clear g1 hp1
          by_cases h0 : k = 0
          · subst h0
            simp only [Nat.lt_irrefl, if_false, List.length_nil, Nat.zero_add] at hm3
            rw [Nat.add_zero] at e1
            have hmm : m + p.size ≤ 256 := by omega
            have HM := W_hid hm
            clear hm hm2 hm3
            go_wp2_with (at_builtin; apply Hid.out)
            refine W_hid ?_
            refine wpList_fits_str _ rfl (.tmp 29) (.tmp 30) 38 9 rfl (w.heap.size + 1) 5 i0 Try.underlying38 Try.underlying9 hi hz1 g _ 256 _ rfl htx.1 p rfl hmm ?_
            intro w2 hown2 hgrow2
            replace htx := Text.str htx hown2 hgrow2
            clear hown2 hgrow2
            have htx2 : Hid (Text w w2 true (.slice (some ⟨b1, o1, none⟩) n cap) d g (m + p.size) (headT true (l.take 1))) := by
              have := hnext.out
              show Text _ _ _ _ _ _ _ _
              rw [this]; exact htx
            clear htx
            go_wp2
            go_roundw
            case rel => exact ⟨1, m + p.size, by omega, rfl, rfl, htx2.out⟩
            case measure => simp [intOf]; omega
          · have h0' : 0 < k := by omega
            have h1' : 0 < (k : Int) := by omega
            rw [if_pos h0'] at hm3
            have hmm : m + 1 + p.size ≤ 256 := by simp only [List.length_cons, List.length_nil] at hm3; omega
            have HM := W_hid hm
            clear hm hm2 hm3
            go_wp2_with (at_builtin; apply Hid.out)
            refine W_hid ?_
            refine wpList_append_fits _ rfl (.tmp 26) (.tmp 27) 38 rfl (w.heap.size + 1) 5 i0 1 Try.underlying38 hi hz1 g _ 256 _ rfl (htx.1.alloc _) ⟨_, 0, none⟩ 1 1 [.int .u8 47] rfl rfl (cell_one_new _ _ _) (by intro u hu; simp at hu; subst hu; rfl) (by omega) ?_
            intro w2 hown2 hgrow2
            replace htx := Text.byte htx hown2 hgrow2
            clear hown2 hgrow2
            have e1 : w2.cell? ⟨b1, o1 + k, none⟩ = some (.string p) := by
              have := ((h.below htx.2.2 (Nat.le_refl _)).at_ (by omega))
              obtain ⟨b2, o2, hb, g2⟩ := this
              injection hb with hb
              injection hb with q1 q2
              subst q1; subst q2
              have := g2 k hlt
              rwa [HP1.out] at this
            go_wp2_with (at_builtin; apply Hid.out)
            refine W_hid ?_
            refine wpList_fits_str _ rfl (.tmp 29) (.tmp 30) 38 9 rfl (w.heap.size + 1) 5 i0 Try.underlying38 Try.underlying9 hi hz1 g _ 256 _ rfl htx.1 p rfl hmm ?_
            intro w3 hown2 hgrow2
            replace htx := Text.str htx hown2 hgrow2
            clear hown2 hgrow2
            have htx2 : Hid (Text w w3 true (.slice (some ⟨b1, o1, none⟩) n cap) d g (m + 1 + p.size) (headT true (l.take (k + 1)))) := by
              have := hnext.out
              show Text _ _ _ _ _ _ _ _
              rw [this, if_pos h0', ← List.append_assoc]; exact htx
            clear htx
            go_wp2
            go_roundw
            case rel => exact ⟨k + 1, m + 1 + p.size, by omega, by go_num, rfl, htx2.out⟩
            case measure => simp [intOf]; omega
        · obtain rfl : k = n := by omega
          have hm4 := (hlen.out k).2
          rw [List.take_of_length_le (by rw [L.out]; exact Nat.le_refl _)] at htx hm
          have c0 := htx.2.1.c0
          have c1 := htx.2.1.c1
          have c2 := htx.2.1.c2
          rw [L.out] at hm4
          by_cases h0 : k = 0
          · subst h0
            have htext : Hid (PM.text true l d = headT true l) := by
              show _ = _
              rw [text_headT, L.out]; simp
            have hconv := htx.conv
            have bel := htx.2.2
            clear htx hm hm2 hm3 hm4
            cases d
            all_goals
              go_wp2_with fail
              go_ret2
              exact ⟨by rw [e1.out.1, e1.out.2, htext.out]; rfl, bel⟩
          · have h0' : 0 < k := by omega
            have h1' : 0 < (k : Int) := by omega
            cases d with
            | false =>
              have htext : Hid (PM.text true l false = headT true l) := by
                show _ = _
                rw [text_headT]; simp
              have hconv := htx.conv
              have bel := htx.2.2
              clear htx hm hm2 hm3 hm4
              go_wp2_with fail
              go_ret2
              exact ⟨by rw [e1.out.1, e1.out.2, htext.out]; rfl, bel⟩
            | true =>
              have htext : Hid (PM.text true l true = headT true l ++ [47]) := by
                show _ = _
                rw [text_headT, L.out]; simp [h0']
              have hmm : m + 1 ≤ 256 := by simp [h0'] at hm4; omega
              have HM := W_hid hm
              clear hm hm2 hm3 hm4
              go_wp2_with (at_builtin; apply Hid.out)
              refine W_hid ?_
              refine wpList_append_fits _ rfl (.tmp 41) (.tmp 42) 38 rfl (w.heap.size + 1) 5 i0 1 Try.underlying38 hi hz1 g _ 256 _ rfl (htx.1.alloc _) ⟨_, 0, none⟩ 1 1 [.int .u8 47] rfl rfl (cell_one_new _ _ _) (by intro u hu; simp at hu; subst hu; rfl) (by omega) ?_
              intro w2 hown2 hgrow2
              replace htx := Text.byte htx hown2 hgrow2
              clear hown2 hgrow2
              have hconv := htx.conv
              have bel := htx.2.2
              clear htx
              go_wp2_with fail
              go_ret2
              exact ⟨by rw [e1.out.1, e1.out.2, htext.out]; rfl, bel⟩

end Go.Proofs.Ytfageibidikppaa
