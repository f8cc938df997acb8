/- Processes' blocks in a row, sorted by their numbers: slices.SortFunc. -/
import Derived.Test.YtahcpimpmedbiaaPrcFun
import Derived.Test.YtahcpimpmedbiaaPSort
import Derived.Test.YtahcpimpmedbiaaOwn2
import Derived.Sort.OwnSorted
namespace Go.Proofs.Ytahcpimpmedbiaa
open Go.ChangeShapes Go.WideShapes Go.ChangeAt Go.RowKit Go.Maps
open Go.Sort Go.Shelf
set_option linter.unusedVariables false
set_option linter.unusedSimpArgs false
set_option maxRecDepth 100000
namespace PC
open IS (ptr I64 Nums upd)
open IN (Keeps lt_of_some)

section
variable {α : Type} [Inhabited α] {enc : α → Value}
theorem gholds {w : World} {g : Nat} {cur : Array Value} {e : TypeId} {ss : List α} (hb : w.heap[g]? = some (.cells cur e (0, 0))) (ht : cur.toList.take ss.length = ss.map enc) : Holds enc w g 0 ss.toArray := by
  intro j hj
  have hj' : j < ss.length := by simpa using hj
  refine ⟨?_, by simp [World.frozen?, hb]⟩
  have h1 : (cur.toList.take ss.length)[j]? = (ss.map enc)[j]? := by rw [ht]
  rw [List.getElem?_take_of_lt hj'] at h1
  simp only [World.cell?, hb, Nat.zero_add]
  simp only [Option.isSome_none, Bool.false_eq_true, if_false]
  rw [← Array.getElem?_toList, h1]
  simp [hj']
theorem gheap {w : World} {g n : Nat} {os : Array Obj} {cur : Array Value} {e : TypeId} {fr : Nat × Nat} (d : Array α) (hb : w.heap[g]? = some (.cells cur e fr)) :
    (grow (putRow enc (Sort.ahead w n) g 0 d) os).heap[g]? = some (.cells (putCells enc 0 d cur) e fr) := by
  have hg : g < w.heap.size := (Array.getElem?_eq_some_iff.1 hb).1
  rw [heap_grow_old _ _ (by simpa using hg)]
  simp [putRow, mapBlock, Sort.ahead, Array.getElem?_modify, hb, onCells]
theorem ggrown {w : World} {g n : Nat} {os : Array Obj} (d : Array α) : w.grownBy (grow (putRow enc (Sort.ahead w n) g 0 d) os) (some g) := by
  refine ⟨rfl, rfl, rfl, by simp, fun k hk hne => ?_⟩
  rw [heap_grow_old _ _ (by simpa using hk)]
  have : g ≠ k := fun e => hne (by rw [e])
  simp [putRow, mapBlock, Sort.ahead, Array.getElem?_modify, this]
theorem gtake (cur : Array Value) (ts : List α) (h : ts.length ≤ cur.size) : (putCells enc 0 ts.toArray cur).toList.take ts.length = ts.map enc := by
  apply List.ext_getElem?
  intro j
  by_cases hj : j < ts.length
  · rw [List.getElem?_take_of_lt hj, Array.getElem?_toList]
    simp [putCells, hj, show j < cur.size by omega]
  · rw [List.getElem?_take_eq_none (by omega), List.getElem?_eq_none (by simp; omega)]
theorem gowns {w : World} {base g cap n m : Nat} {e : TypeId} {os : Array Obj} {cur : Array Value} {ts : List α} (hl : ts.length = m) (hbase : base ≤ g) (hb : w.heap[g]? = some (.cells cur e (0, 0)))
    (h1 : m ≤ cap) (h2 : cap ≤ maxLen) (h3 : cur.size = cap * 1) :
    (grow (putRow enc (Sort.ahead w n) g 0 ts.toArray) os).ownsRow base e 1 (.slice (some ⟨g, 0, none⟩) m cap) m (ts.map enc) :=
  ⟨by simp [hl], .inr ⟨g, cap, _, rfl, hbase, gheap _ hb, h1, h2, by simp [putCells, h3], by rw [Nat.mul_one, ← hl]; exact gtake cur ts (by omega)⟩⟩
end

theorem pcmp_enters : ∀ args w, (callFunc 41 args).run Try.prog w = .ok (.enter 41 args) w := enters_of Try.func41 (by kernel_rfl) rfl
theorem cmpI_lt (x y : Int) : decide (cmpI x y < 0) = decide (x < y) := by
  unfold cmpI
  by_cases h1 : x < y
  · simp [h1]
  · by_cases h2 : y < x <;> simp [h1, h2]
theorem one_ptr (x : Option Nat) : (ptr x).oneCell' = true := by cases x <;> rfl

/-- The row of these processes' blocks is sorted by their numbers. -/
theorem psort_any {base B : Nat} {w : World} {tb mb : Nat} {M : Int → Option Nat} {N : Nat} {S : Int → Option Pr} (h : TM base w tb mb M N S) (v : Value) (ps : List Int) (hps : ∀ p ∈ ps, M p ≠ none) (hnd : ps.Nodup) (hlen : ps.length < 65536)
    (hrow : w.ownsRow B 62 1 v ps.length (ps.map fun p => ptr (M p))) (hap : ∀ k, TX tb mb M k → k < B) :
    Calls Try.prog 40 #[v, .func (.func 41) #[] #[]] w fun e w' => e = .returned (.tuple #[]) ∧ ∃ qs : List Int, qs.Perm ps ∧ qs.Pairwise (· < ·) ∧
      w'.ownsRow B 62 1 v ps.length (qs.map fun p => ptr (M p)) ∧ w.grownBy w' v.ownBlock := by
  by_cases hz : ps = []
  · subst hz
    obtain ⟨a, c, rfl⟩ := Own.form hrow
    refine (AnyF.slices_SortFunc_none (P := Try.prog) (ρ := Try.psort40_ren) { Try.psort40 with } a c _ w).mono ?_
    rintro e w' ⟨rfl, rfl⟩
    exact ⟨rfl, [], List.Perm.refl _, List.Pairwise.nil, hrow, World.grownBy.refl _ _⟩
  · let α := { p : Int // M p ≠ none }
    have hne : ∃ p, p ∈ ps := List.exists_mem_of_ne_nil ps hz
    obtain ⟨p0, hp0⟩ := hne
    letI : Inhabited α := ⟨⟨p0, hps p0 hp0⟩⟩
    let enc : α → Value := fun q => ptr (M q.1)
    let cf : α → α → Int := fun q r => cmpI q.1 r.1
    let d : List α := ps.attach.map fun q => ⟨q.1, hps q.1 q.2⟩
    have hd1 : d.map (fun q : α => q.1) = ps := by simp [d, List.map_map, Function.comp_def]
    have hd2 : d.map enc = ps.map fun p => ptr (M p) := by simp [d, enc, List.map_map, Function.comp_def]
    have hdl : d.length = ps.length := by simp [d]
    rcases hrow.2 with ⟨h1, h0⟩ | ⟨g, cap, cur, rfl, hb, hg, h1, h2, h3, h4⟩
    · exfalso
      exact hz (List.eq_nil_of_length_eq_zero h0)
    · have hone : OneCell enc := fun q => one_ptr _
      have hO : SWO (ltOf cf) := by
        have e : ∀ x y : α, ltOf cf x y = decide (x.1 < y.1) := fun x y => cmpI_lt _ _
        refine ⟨fun x => ?_, fun x y z a b => ?_, fun x y z a b => ?_⟩
        · rw [e]; simp
        · rw [e] at *; simp at *; omega
        · rw [e] at *; simp at *; omega
      have hH : Holds enc w g 0 d.toArray := gholds hg (by rw [hdl, hd2, ← h4, Nat.mul_one])
      have hgl : g < w.heap.size := lt_of_some hg
      have hcmp : CmpReads Try.prog 41 #[] enc cf g 0 d.toArray.size w := by
        intro m os dk hs x y
        have key : ∀ q : α, ∃ b z, M q.1 = some b ∧ z.pid = q.1 ∧ PBk (sortWorld enc w g 0 m dk os) b z := by
          rintro ⟨q, hq⟩
          cases e : M q with
          | none => exact absurd e hq
          | some b =>
            obtain ⟨z, hS, hbz⟩ := h.blk e
            refine ⟨b, z, rfl, h.pid q z hS, ?_⟩
            exact hbz.grown (ggrown dk) (by have := hap b (.inr (.inr ⟨q, e⟩)); intro e'; cases e'; omega)
        obtain ⟨b1, z1, e1, p1, k1⟩ := key x
        obtain ⟨b2, z2, e2, p2, k2⟩ := key y
        have := psel1_any k1 k2
        simp only [enc, cf, e1, e2, ptr]
        rw [p1, p2] at this
        exact this
      have hc := Any.slices_SortFunc Try.psort40 enc hone cf hO _ #[] g 0 cap d.toArray w pcmp_enters hcmp.lays hH hgl (by simp [hdl]; omega)
      have hsz : d.toArray.size = ps.length := by simp [hdl]
      rw [hsz] at hc
      refine hc.mono ?_
      rintro e w' ⟨rfl, d', n, os, hp, hs, rfl⟩
      have hsz' : d'.size = ps.length := by rw [hp.1, hsz]
      have hperm : d'.toList.Perm d := by
        have := hp.2.2
        rw [← hsz, Array.extract_size] at this
        have e2 : d'.extract 0 d.toArray.size = d' := by rw [hsz, ← hsz', Array.extract_size]
        rw [e2] at this
        simpa using this
      have hqp : (d'.toList.map fun q : α => q.1).Perm ps := by rw [← hd1]; exact hperm.map _
      refine ⟨rfl, d'.toList.map (fun q : α => q.1), hqp, ?_, ?_, ?_⟩
      · have hn2 := hqp.nodup_iff.2 hnd
        rw [List.pairwise_iff_getElem]
        intro i j hi hj hij
        have hj' : j < d'.size := by simpa using hj
        have hi' : i < d'.size := by simpa using hi
        have := hs i j (Nat.zero_le _) hij (by rw [← hsz']; exact hj')
        have e : ∀ x y : α, ltOf cf x y = decide (x.1 < y.1) := fun x y => cmpI_lt _ _
        rw [e, getElem!_pos d' j hj', getElem!_pos d' i hi'] at this
        have h5 : ¬ d'[j].1 < d'[i].1 := by simpa using this
        have h6 : d'[i].1 ≠ d'[j].1 := by
          intro e'
          have h7 := List.pairwise_iff_getElem.1 hn2 i j hi hj hij
          simp at h7
          exact h7 e'
        simp
        omega
      · have := gowns (enc := enc) (w := w) (base := B) (g := g) (cap := cap) (n := n) (m := ps.length) (os := os) (ts := d'.toList) (by simpa using hsz') hb hg h1 h2 h3
        simp only [Array.toArray_toList] at this
        have e3 : d'.toList.map enc = (d'.toList.map fun q : α => q.1).map fun p => ptr (M p) := by simp [enc, List.map_map, Function.comp_def]
        rw [e3] at this
        exact this
      · exact ggrown _
end PC
end Go.Proofs.Ytahcpimpmedbiaa
