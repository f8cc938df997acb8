/- Bytes copied from strings into a row of bytes; contract of packed, the program's: all bytes of the pieces. -/
import Derived.Test.YtieneehpijilpaaExtPart
import Derived.Test.YtieneehpijilpaaBytes
import Derived.Lib.BufferWrite
namespace Go.Proofs.Ytieneehpijilpaa
open Go.ChangeShapes Go.WideShapes Go.ChangeAt Go.RowKit
set_option linter.unusedVariables false
set_option linter.unusedSimpArgs false

theorem cel_take (l : List UInt8) (k : Nat) : (cel l).take k = cel (l.take k) := by simp [cel, List.map_take]
theorem cel_drop (l : List UInt8) (k : Nat) : (cel l).drop k = cel (l.drop k) := by simp [cel, List.map_drop]

/-- 'copy' of a string's bytes into a row of bytes, as one step of a region that draws its order. -/
theorem step_copy_bs {P : Program} {ops : Array Oper} {o : Oper} {a : Act} {w : World} {K : Act → World → Prop} {Q : Exit → Act → World → Prop} {E : Prop} (hg : o.guard = none) (d x : Operand) (dT sT : TypeId)
    (hop : o.op = Op.call { callee := Callee.builtin Builtin.copy, args := #[d, x], argTypes := #[dT, sT] }) (elem : TypeId) (hu : P.underlying dT = some (.slice elem)) (hs : (P.info? elem).map (·.size) = some 1)
    (g off n c : Nat) (s : ByteArray) (bs : List UInt8) (t : TypeId) (hd : a.eval d = .slice (some ⟨g, off, none⟩) n c) (hx : a.eval x = .string s) (hrow : w.heap[g]? = some (.cells (cel bs).toArray t (0, 0))) (hle : s.size ≤ n) (hfit : off + s.size ≤ bs.length)
    (hK : ∀ w', w'.heap[g]? = some (.cells (cel (bs.take off ++ (s.data.toList ++ bs.drop (off + s.size)))).toArray t (0, 0)) → w.grownBy w' (some g) → K (a.put o.dst (goInt s.size)) w') :
    if Region.wanted o (yielded ops a.tmps) = true then Oper.wp P o a w K Q else E := by
  have hw : Region.wanted o (yielded ops a.tmps) = true := by simp [Region.wanted, hg]
  rw [if_pos hw]
  have hrun := Lib.run_copy_row_string (P := P) w dT sT o.type elem g off n c s (cel bs).toArray t hu hs hrow hle (by simpa [cel_length] using hfit)
  have hcs : ((cel bs).toArray.toList.take off ++ Lib.byteCells s.data.toList ++ (cel bs).toArray.toList.drop (off + s.size)) = cel (bs.take off ++ (s.data.toList ++ bs.drop (off + s.size))) := by
    rw [List.toList_toArray, cel_take, cel_drop, cel_append, cel_append, List.append_assoc]; rfl
  rw [hcs] at hrun
  unfold Oper.wp
  simp [execOp, hop, resolve, invoke, builtin, hd, hx, hrun, Result.andThen]
  exact hK _ (setRow_heap w g _ _ _ _ hrow) ⟨rfl, rfl, rfl, by simp [World.setRow], fun k _ hk => setRow_other w g k _ (fun e => hk (by rw [e]))⟩

/-- A row of bytes, whole. -/
def BR (w : World) (g : Nat) (bs : List UInt8) : Prop := w.heap[g]? = some (.cells (cel bs).toArray 5 (0, 0))
section
variable {w w' : World} {g : Nat} {bs : List UInt8}
theorem BR.lt (h : BR w g bs) : g < w.heap.size := by
  rcases Nat.lt_or_ge g w.heap.size with hlt | hge
  · exact hlt
  · unfold BR at h; rw [Array.getElem?_eq_none hge] at h; cases h
theorem BR.below {B : Nat} (h : BR w g bs) (hb : Below B w w') (hg : g < B) : BR w' g bs := (hb.block g hg).trans h
theorem BR.alloc (h : BR w g bs) (o : Obj) : BR (w.alloc o) g bs := (Below.heap_alloc w o g h.lt).trans h
theorem BR.reads (h : BR w g bs) (hm : bs.length ≤ maxLen) : BS w (some ⟨g, 0, none⟩) bs.length bs.length bs := by
  refine ⟨rfl, Nat.le_refl _, hm, (fun h => by cases h), fun a ha j u hu => ?_⟩
  obtain rfl := Option.some.inj ha
  rw [Addr.add_lit, cell_of_row w g _ _ _ _ h]
  simpa using hu
theorem BR.made (N : Nat) {base : Nat} {w : World} (h : w.ownsRow base 5 1 (.slice (some ⟨g, 0, none⟩) N N) N (madeCells (Value.int .u8 0).cells (N * 1)).toList) : BR w g (List.replicate N 0) := by
  rcases h.2 with ⟨h', _⟩ | ⟨g', cap', cur, h', hb, hg, hnc, hcm, hcs, htake⟩
  · simp at h'
  · simp only [Value.slice.injEq, Option.some.injEq, Addr.mk.injEq, and_true, true_and] at h'
    obtain ⟨rfl, rfl⟩ := h'
    unfold BR
    rw [hg]
    congr 2
    rw [Nat.mul_one] at htake hcs
    rw [List.take_of_length_le (by rw [Array.length_toList]; omega)] at htake
    apply Array.toList_inj.1
    rw [htake]
    refine (toList_madeCells_one _ _).trans ?_
    simp [cel]
end

theorem byte_one : (Try.prog.info? 5).map (·.size) = some 1 := by kernel_rfl

theorem lay_next {p : List UInt8} {s : List UInt8} {N b : Nat} (hp : p.length = b) (hb : b + s.length ≤ N) : (p ++ List.replicate (N - b) 0).take b ++ (s ++ (p ++ List.replicate (N - b) (0 : UInt8)).drop (b + s.length)) = (p ++ s) ++ List.replicate (N - (b + s.length)) 0 := by
  rw [List.take_left' hp, List.drop_append, List.drop_eq_nil_of_le (by omega), List.nil_append, List.drop_replicate, List.append_assoc]
  congr 3
  omega

set_option maxRecDepth 100000 in
set_option maxHeartbeats 4000000 in
theorem packed_any (ao : Option Addr) (n cap : Nat) (l : List (Int × ByteArray)) (w : World) (h : XS w ao n cap l) (hp : ∀ x ∈ l, 0 < x.2.size) (hc : EM.cnt l ≤ 4000000) :
    Calls Try.prog 77 #[.slice ao n cap] w fun e w' => e = .returned (.string (strOf (EM.cat l))) ∧ Below w.heap.size w w' := by
  obtain ⟨i0, hi0, hz0, hz1, hz2⟩ := info_parts info_byte
  have hn : n ≤ 9223372036854775807 := by have := h.2.1; have := h.2.2.1; unfold maxLen at *; omega
  have L := W_hid h.1
  have H := W_hid h
  have hcount := W_hid (count_any ao n cap l w h (by omega))
  have hle := W_hid (fun k => EM.cnt_take l k)
  have hpos := W_hid hp
  obtain ⟨N, hN⟩ : ∃ N, EM.cnt l = N := ⟨_, rfl⟩
  rw [hN] at hcount hle hc
  have HN := W_hid hN
  clear h hp hN
  go_enter Try.func77, Try.ntmps77
  go_wp2_with fail
  refine hcount.out.mono ?_
  rintro e w1 ⟨rfl, bel1⟩
  go_wp2_with (at_make; apply Hid.out)
  refine W_hid ?_
  refine wpList_make_full _ rfl _ _ 91 rfl w.heap.size 5 i0 (.int .u8 0) 1 Try.underlying91 hi0 hz0 hz1 .i64 .i64 _ _ N rfl rfl rfl rfl (by rw [hz2]; omega) (by unfold maxLen; omega) bel1.size ?_
  intro w2 hown hgrow
  obtain ⟨g, hg⟩ : ∃ g, g = w1.heap.size := ⟨_, rfl⟩
  rw [← hg] at hown ⊢
  have hbr := BR.made N hown
  have bel2 := bel1.grown hgrow bel1.size (fun k hk => by cases hk)
  have hgw : w.heap.size ≤ g := by rw [hg]; exact bel1.size
  clear hown hgrow hg bel1
  go_wp2_with fail
  go_loopw [4, 12] (fun f i wr => ∃ (k b : Nat), k ≤ n ∧ b ≤ N ∧ i = .int .i64 k ∧ f = .int .i64 b ∧ Hid (EM.cnt (l.take k) = b) ∧ Hid (BR wr g (EM.cat (l.take k) ++ List.replicate (N - b) 0)) ∧ Below w.heap.size w wr) (fun _ i _ => n - (intOf i).toNat)
  case atStart => exact ⟨0, 0, Nat.zero_le _, Nat.zero_le _, rfl, rfl, W_hid rfl, hbr, bel2⟩
  case round =>
    clear hbr bel2
    obtain ⟨k, b, hk, hb, rfl, rfl, hok, hbr, bel⟩ := hrel
    by_cases hlt : k < n
    · obtain ⟨b1, o1, rfl, g1⟩ := (H.out.below bel (Nat.le_refl _)).at_ (by omega)
      have k1 : k < l.length := by rw [L.out]; exact hlt
      obtain ⟨e1, e2⟩ := g1 k hlt
      have hnext : Hid (EM.cnt (l.take (k + 1)) = b + l[k].2.size) := by
        show _ = _
        rw [EM.take_snoc l k k1, EM.cnt_append, EM.cnt_one, hok.out]
      have hbb : b + l[k].2.size ≤ N := by rw [← hnext.out]; exact hle.out _
      have hcat : Hid (EM.cat (l.take (k + 1)) = EM.cat (l.take k) ++ l[k].2.data.toList) := by
        show _ = _
        rw [EM.take_snoc l k k1, EM.cat_append, EM.cat_one]
      have hdp := hpos.out l[k] (List.getElem_mem k1)
      obtain ⟨⟨a, d⟩, hx⟩ : ∃ x, l[k] = x := ⟨_, rfl⟩
      simp only [hx] at e1 e2 hnext hbb hcat hdp
      clear hx g1 k1
      have hw1 := XB.new wr a d rfl
      have u1 := hw1.c1
      have bel3 := bel.alloc bel.size (.cells #[.int .i64 a, .string d] 94)
      have hbr3 := W_hid (hbr.out.alloc (.cells #[.int .i64 a, .string d] 94))
      have hgr := hbr.out.lt
      have hlen : Hid ((EM.cat (l.take k) ++ List.replicate (N - b) (0 : UInt8)).length = N) := by
        show _ = _
        rw [List.length_append, EM.cat_length, hok.out, List.length_replicate]; omega
      go_wp2_with fail
      clear hw1 e1 e2 bel
      have hne : ¬ N = b := by omega
      have hgne : some wr.heap.size ≠ some g := by intro h; have := Option.some.inj h; omega
      go_region_held3 (fun w' => w'.cell? ⟨wr.heap.size, 1, none⟩ = some (.string d)) (first | go_keep | skip)
        ((refine step_copy_bs rfl (.tmp 19) (.tmp 21) 91 9 rfl 5 Try.underlying91 byte_one g b (N - b) (N - b) d _ 5 (by rfl) (by rfl) hbr3.out (by omega) (by rw [hlen.out]; omega) ?_; intro w3 hbr4 hgrow; have k1 := Own.cellg (Own.undrew hgrow) u1 hgne))
      have hwrap : IntKind.i64.wrap ((b : Int) + d.size) = ((b + d.size : Nat) : Int) := by rw [IntKind.wrap_i64]; omega
      rw [hwrap]
      have hbr5 : Hid (BR w3 g (EM.cat (l.take (k + 1)) ++ List.replicate (N - (b + d.size)) 0)) := by
        have hs := lay_next (p := EM.cat (l.take k)) (s := d.data.toList) (N := N) (b := b) (by rw [EM.cat_length, hok.out]) (by rw [EM.list_size]; exact hbb)
        rw [EM.list_size] at hs
        rw [hs] at hbr4
        show BR _ _ _
        rw [hcat.out]
        exact hbr4
      have bel5 := bel3.grown (Own.undrew hgrow) bel3.size (fun k h => by have := Option.some.inj h; omega)
      clear hbr hbr3 hbr4 hgrow bel3 u1 k1 hcat hok
      go_wp2_with fail
      go_roundw
      case rel => exact ⟨k + 1, b + d.size, by omega, hbb, by go_num, rfl, hnext, hbr5, bel5⟩
      case measure => simp [intOf]; omega
    · obtain rfl : k = n := by omega
      have hbN : Hid (b = N) := by
        have := hok.out
        rw [List.take_of_length_le (by rw [L.out]; exact Nat.le_refl _), HN.out] at this
        exact this.symm
      have hbr5 : BR wr g (EM.cat l) := by
        have := hbr.out
        rw [List.take_of_length_le (by rw [L.out]; exact Nat.le_refl _), hbN.out, Nat.sub_self, List.replicate_zero, List.append_nil] at this
        exact this
      have hlen : (EM.cat l).length = N := by rw [EM.cat_length, HN.out]
      have hrd := hbr5.reads (by rw [hlen]; unfold maxLen; omega)
      rw [hlen] at hrd
      have hcv := run_conv (P := Try.prog) 91 5 Try.underlying91 Try.underlying5 9 Try.underlying9 hrd
      clear hbr hbr5 hok hlen hrd
      go_wp2_with fail
      go_ret
      exact ⟨rfl, bel⟩

end Go.Proofs.Ytieneehpijilpaa
