/- A slice value that reads as a list of strings; the contract of Same, for all paths. -/
import Derived.Test.YtfageibidikppaaRefParse
import Derived.WalkSmall
namespace Go.Proofs.Ytfageibidikppaa
open Go.ChangeShapes Go.WideShapes Go.ChangeAt Go.RowKit
set_option linter.unusedVariables false
set_option linter.unusedSimpArgs false

/-- A slice value of length n reads as the strings l in world w. -/
def SS (w : World) (ao : Option Addr) (n cap : Nat) (l : List ByteArray) : Prop :=
  l.length = n ∧ n ≤ cap ∧ cap ≤ maxLen ∧ (ao = none → cap = 0) ∧ ∀ a, ao = some a → ∀ j u, (scl l)[j]? = some u → w.cell? (a.add j) = some u

theorem SS.below {w w' : World} {ao : Option Addr} {n cap : Nat} {l : List ByteArray} (h : SS w ao n cap l) {B : Nat} (hb : Below B w w') (hB : w.heap.size ≤ B) : SS w' ao n cap l := by
  refine ⟨h.1, h.2.1, h.2.2.1, h.2.2.2.1, fun a ha j u hu => ?_⟩
  have hc := h.2.2.2.2 a ha j u hu
  rw [hb.cell (Nat.lt_of_lt_of_le (World.block_lt_of_cell? w _ hc) hB)]
  exact hc
theorem SS.nil (w : World) : SS w none 0 0 [] := ⟨rfl, Nat.le_refl _, Nat.zero_le _, fun _ => rfl, fun _ h => by cases h⟩
theorem SS.alloc {w : World} {ao : Option Addr} {n cap : Nat} {l : List ByteArray} (h : SS w ao n cap l) (o : Obj) : SS (w.alloc o) ao n cap l := h.below (Below.alloc (Below.refl _ _) (Nat.le_refl _) o) (Nat.le_refl _)
/-- What is owned reads so. -/
theorem SS_own {w : World} {base e : Nat} {n cap : Nat} {ao : Option Addr} {l : List ByteArray} (h : w.ownsRow base e 1 (.slice ao n cap) n (scl l)) : SS w ao n cap l := by
  have hl : l.length = n := by have := h.1; rw [scl_length] at this; omega
  rcases h.2 with ⟨h', h''⟩ | ⟨g', cap', cur, h', hb, hg, hnc, hcm, _⟩
  · simp only [Value.slice.injEq] at h'
    obtain ⟨rfl, rfl, rfl⟩ := h'
    obtain rfl := List.eq_nil_of_length_eq_zero hl
    exact SS.nil w
  · simp only [Value.slice.injEq, true_and] at h'
    obtain ⟨rfl, rfl⟩ := h'
    refine ⟨hl, hnc, hcm, (fun h => by cases h), fun a ha j u hu => ?_⟩
    obtain rfl := Option.some.inj ha
    exact h.cells (g := g') rfl j u hu
theorem SS.at_ {w : World} {ao : Option Addr} {n cap : Nat} {l : List ByteArray} (h : SS w ao n cap l) (hn : 0 < n) : ∃ blk off, ao = some ⟨blk, off, none⟩ ∧ ∀ j, (hj : j < n) → w.cell? ⟨blk, off + j, none⟩ = some (.string (l[j]'(by rw [h.1]; exact hj))) := by
  obtain ⟨hl, h1, h2, h3, h4⟩ := h
  cases ao with
  | none => have := h3 rfl; omega
  | some a =>
    have hcell : ∀ j, (hj : j < n) → w.cell? (a.add j) = some (.string (l[j]'(by rw [hl]; exact hj))) := fun j hj => by
      refine h4 a rfl j _ ?_
      rw [scl_get, List.getElem?_eq_getElem (by rw [hl]; exact hj)]; rfl
    obtain ⟨b, off, spot⟩ := a
    have h0 := hcell 0 hn
    have hs : spot = none := by simpa [Addr.add] using World.cell?_spot h0
    subst hs
    exact ⟨b, off, rfl, fun j hj => by have := hcell j hj; rwa [Addr.add_lit] at this⟩

/-- A path as a value. -/
def pathv (a : Bool) (v : Value) (d : Bool) : Value := .agg #[.bool a, v, .bool d]

def same (a1 : Bool) (l1 : List ByteArray) (d1 a2 : Bool) (l2 : List ByteArray) (d2 : Bool) : Bool := decide (a1 = a2) && decide (d1 = d2) && decide (l1 = l2)

set_option maxHeartbeats 1000000 in
theorem Same_any (a1 d1 a2 d2 : Bool) (x1 x2 : Option Addr) (n1 c1 n2 c2 : Nat) (l1 l2 : List ByteArray) (w : World) (h1 : SS w x1 n1 c1 l1) (h2 : SS w x2 n2 c2 l2) :
    Calls Try.prog 12 #[.agg #[.bool a1, .slice x1 n1 c1, .bool d1], .agg #[.bool a2, .slice x2 n2 c2, .bool d2]] w fun e w' => e = .returned (.bool (same a1 l1 d1 a2 l2 d2)) ∧ Below w.heap.size w w' := by
  have m1 : n1 ≤ 9223372036854775807 := by have := h1.2.1; have := h1.2.2.1; unfold maxLen at *; omega
  have m2 : n2 ≤ 9223372036854775807 := by have := h2.2.1; have := h2.2.2.1; unfold maxLen at *; omega
  have bb : Below w.heap.size w ((w.alloc (.cells #[.bool a1, .slice x1 n1 c1, .bool d1] 25)).alloc (.cells #[.bool a2, .slice x2 n2 c2, .bool d2] 25)) := ((Below.refl _ _).alloc (Nat.le_refl _) _).alloc (by simp) _
  by_cases ha : a1 = a2
  · by_cases hd : d1 = d2
    · by_cases hn : n1 = n2
      · subst ha; subst hd; subst hn
        have hp := (PB.new w a1 (.slice x1 n1 c1) d1 rfl).alloc (.cells #[.bool a1, .slice x2 n1 c2, .bool d1] 25)
        have hq : PB _ (w.heap.size + 1) a1 (.slice x2 n1 c2) d1 := PB.new (w.alloc (.cells #[.bool a1, .slice x1 n1 c1, .bool d1] 25)) a1 (.slice x2 n1 c2) d1 (by simp)
        have s1 := (h1.alloc (.cells #[.bool a1, .slice x1 n1 c1, .bool d1] 25)).alloc (.cells #[.bool a1, .slice x2 n1 c2, .bool d1] 25)
        have s2 := (h2.alloc (.cells #[.bool a1, .slice x1 n1 c1, .bool d1] 25)).alloc (.cells #[.bool a1, .slice x2 n1 c2, .bool d1] 25)
        have L1 := W_hid h1.1
        have L2 := W_hid h2.1
        clear h1 h2
        go_enter Try.func12, Try.ntmps12
        go_wp2
        go_loopw [5] (fun i wr => ∃ k : Nat, k ≤ n1 ∧ i = .int .i64 k ∧ Hid (l1.take k = l2.take k) ∧ PB wr w.heap.size a1 (.slice x1 n1 c1) d1 ∧ PB wr (w.heap.size + 1) a1 (.slice x2 n1 c2) d1 ∧ SS wr x1 n1 c1 l1 ∧ SS wr x2 n1 c2 l2 ∧ Below w.heap.size w wr) (fun i _ => n1 - (intOf i).toNat)
        case atStart => exact ⟨0, Nat.zero_le _, rfl, rfl, hp, hq, s1, s2, bb⟩
        clear hp hq s1 s2 bb
        case round =>
        obtain ⟨k, hk, rfl, heq, hp, hq, s1, s2, bel⟩ := hrel
        have c0 := hp.c1
        have c1' := hq.c1
        by_cases hlt : k < n1
        · obtain ⟨b1, o1, rfl, g1⟩ := s1.at_ (by omega)
          obtain ⟨b2, o2, rfl, g2⟩ := s2.at_ (by omega)
          have k1 : k < l1.length := by rw [L1.out]; exact hlt
          have k2 : k < l2.length := by rw [L2.out]; exact hlt
          have e1 := g1 k hlt
          have e2 := g2 k hlt
          have G1 := W_hid g1
          have G2 := W_hid g2
          clear g1 g2
          obtain ⟨p, hp1⟩ : ∃ p, l1[k] = p := ⟨_, rfl⟩
          obtain ⟨q, hq1⟩ : ∃ q, l2[k] = q := ⟨_, rfl⟩
          rw [hp1] at e1
          rw [hq1] at e2
          have HP := W_hid hp1
          have HQ := W_hid hq1
          clear hp1 hq1
          by_cases hpq : p = q
          · subst hpq
            have hnext : Hid (l1.take (k + 1) = l2.take (k + 1)) := by
              show _ = _
              rw [List.take_succ_eq_append_getElem k1, List.take_succ_eq_append_getElem k2, heq.out, HP.out, HQ.out]
            clear heq
            go_wp2
            go_quiet (fail)
            go_wp2
            go_roundw
            case rel => exact ⟨k + 1, by omega, by go_num, hnext, hp, hq, s1, s2, below_drewN bel _⟩
            case measure => simp [intOf]; omega
          · have hh : Hid (same a1 l1 d1 a1 l2 d1 = false) := by
              have : l1 ≠ l2 := fun e => by
                apply hpq
                have h1 := HP.out
                have h2 := HQ.out
                subst e
                rw [← h1, ← h2]
              exact W_hid (by simp [same, this])
            have f1 : (p.toList == q.toList) = false := by
              have : p.toList ≠ q.toList := fun e => hpq (list_inj e)
              simpa using this
            have f2 : (p.toList = q.toList) = False := by simpa using f1
            clear heq hpq
            go_wp2
            go_quiet (fail)
            go_wp2
            go_ret
            exact ⟨by rw [hh.out]; rfl, below_drewN bel _⟩
        · obtain rfl : k = n1 := by omega
          have hh : Hid (same a1 l1 d1 a1 l2 d1 = true) := by
            have e := heq.out
            rw [List.take_of_length_le (by rw [L1.out]; exact Nat.le_refl _), List.take_of_length_le (by rw [L2.out]; exact Nat.le_refl _)] at e
            show _ = _
            rw [e]; simp [same]
          clear heq
          go_wp2
          go_ret
          exact ⟨by rw [hh.out]; rfl, bel⟩
      · have hh : Hid (same a1 l1 d1 a2 l2 d2 = false) := by
          have : l1 ≠ l2 := fun e => hn (by rw [← h1.1, ← h2.1, e])
          show _ = _
          simp [same, this]
        subst ha; subst hd
        have e : ((n1 : Int) != (n2 : Int)) = true := by simp; omega
        clear hn
        go_enter Try.func12, Try.ntmps12
        go_wp2
        go_ret
        exact ⟨by rw [hh.out]; rfl, bb⟩
    · have hh : Hid (same a1 l1 d1 a2 l2 d2 = false) := W_hid (by simp [same, hd])
      subst ha
      go_enter Try.func12, Try.ntmps12
      go_wp2
      go_ret
      exact ⟨by rw [hh.out]; rfl, bb⟩
  · have hh : Hid (same a1 l1 d1 a2 l2 d2 = false) := W_hid (by simp [same, ha])
    go_enter Try.func12, Try.ntmps12
    go_wp2
    go_ret
    exact ⟨by rw [hh.out]; rfl, bb⟩

end Go.Proofs.Ytfageibidikppaa
