/- Sums of weights: what it says that a slice value reads as a list of floats; contracts of the program's and the document's own sum. -/
import Derived.Test.YtmikgkelmdgckaaShareRef
import Derived.Laws.BytesArg
import Derived.Laws.CopyOwn
import Derived.Laws.AppendOwnNone
namespace Go.Proofs.Ytmikgkelmdgckaa
open Go.ChangeShapes Go.WideShapes Go.ChangeAt Go.RowKit
open FM
set_option linter.unusedVariables false

/-- The cells of a list of floats. -/
def fcel (l : List Nat) : List Value := l.map fl
theorem fcel_length (l : List Nat) : (fcel l).length = l.length := by simp [fcel]
theorem fcel_append (a b : List Nat) : fcel (a ++ b) = fcel a ++ fcel b := by simp [fcel]
theorem fcel_get (l : List Nat) (j : Nat) : (fcel l)[j]? = (l[j]?).map fl := by simp [fcel]

/-- A slice value of length n and capacity cap at address ao reads as the floats l in world w. -/
def Fsl (w : World) (ao : Option Addr) (n cap : Nat) (l : List Nat) : Prop :=
  l.length = n ∧ n ≤ cap ∧ cap ≤ maxLen ∧ (ao = none → cap = 0) ∧ (∀ b ∈ l, b < 18446744073709551616) ∧ ∀ a, ao = some a → ∀ j u, (fcel l)[j]? = some u → w.cell? (a.add j) = some u

theorem Fsl.below {w w' : World} {ao : Option Addr} {n cap : Nat} {l : List Nat} (h : Fsl w ao n cap l) {B : Nat} (hb : Below B w w') (hB : w.heap.size ≤ B) : Fsl w' ao n cap l := by
  refine ⟨h.1, h.2.1, h.2.2.1, h.2.2.2.1, h.2.2.2.2.1, fun a ha j u hu => ?_⟩
  have hc := h.2.2.2.2.2 a ha j u hu
  rw [hb.cell (Nat.lt_of_lt_of_le (World.block_lt_of_cell? w _ hc) hB)]
  exact hc

/-- What is owned reads so. -/
theorem Fsl_own {w : World} {base e : Nat} {g n cap : Nat} {l : List Nat} (h : w.ownsRow base e 1 (.slice (some ⟨g, 0, none⟩) n cap) n (fcel l)) (hl64 : ∀ b ∈ l, b < 18446744073709551616) : Fsl w (some ⟨g, 0, none⟩) n cap l := by
  have hl : l.length = n := by have := h.1; rw [fcel_length] at this; omega
  rcases h.2 with ⟨h', _⟩ | ⟨g', cap', cur, h', hb, hg, hnc, hcm, _⟩
  · simp at h'
  · simp only [Value.slice.injEq, Option.some.injEq, Addr.mk.injEq, and_true, true_and] at h'
    obtain ⟨rfl, rfl⟩ := h'
    refine ⟨hl, hnc, hcm, (fun h => by cases h), hl64, fun a ha j u hu => ?_⟩
    obtain rfl := Option.some.inj ha
    exact h.cells (g := g) rfl j u hu

/-- Its cells, one by one. -/
theorem Fsl.at {w : World} {ao : Option Addr} {n cap : Nat} {l : List Nat} (h : Fsl w ao n cap l) (hn : 0 < n) :
    ∃ b off, ao = some ⟨b, off, none⟩ ∧ ∀ j, j < n → w.cell? ⟨b, off + j, none⟩ = some (fl (l[j]?.getD 0)) := by
  cases hao : ao with
  | none => have := h.2.2.2.1 hao; have := h.2.1; omega
  | some a =>
    have hc : ∀ j, j < n → w.cell? (a.add j) = some (fl (l[j]?.getD 0)) := fun j hj => h.2.2.2.2.2 a hao j _ (by rw [fcel_get, List.getElem?_eq_getElem (by rw [h.1]; exact hj)]; rfl)
    obtain ⟨b, off, spot⟩ := a
    have hs : spot = none := by simpa [Addr.add] using World.cell?_spot (hc 0 hn)
    subst hs
    exact ⟨b, off, rfl, fun j hj => by have := hc j hj; rwa [Addr.add_lit] at this⟩

/-- A weight; the sum of a list from the left; that a list has a sum. -/
def pos (b : Nat) : Bool := decide (0 < b ∧ b < 9218868437227405312)
def ad (s b : Nat) : Nat := (D.add s b).getD 0
def sums (l : List Nat) : Nat := l.foldl ad 0
def okW (l : List Nat) : Bool := l.all pos && pos (sums l)

theorem class5 (b : Nat) (hb : b < 18446744073709551616) : ∃ k : Nat, cls b = k ∧ ((k : Int) == 5) = pos b ∧ ((k : Int) != 5) = !pos b := by
  refine ⟨cls b, rfl, ?_⟩
  have : (((cls b : Nat) : Int) == 5) = pos b := by
    rw [cls_rank b hb]
    by_cases h : 0 < b ∧ b < 9218868437227405312
    · have hr : rank b = b := by
        unfold rank isNan
        rw [if_neg (by simp; omega), if_pos (by omega)]
      rw [hr]
      have : clsR (b : Int) = 5 := by unfold clsR; (repeat' split) <;> omega
      rw [this, show pos b = true from decide_eq_true h]; rfl
    · have h2 : clsR (rank b) ≠ 5 := by
        intro h5
        apply h
        have : 0 < rank b ∧ rank b < 9218868437227405312 := by
          unfold clsR at h5
          (repeat' split at h5) <;> omega
        unfold rank at this
        (repeat' split at this) <;> omega
      rw [show pos b = false from decide_eq_false h]
      simp; omega
  exact ⟨this, by rw [← this]; rfl⟩

theorem ad_some (s b : Nat) (hs : s ≤ 9218868437227405312) (hb : pos b = true) : floatBits .add .f64 s b = some (ad s b) ∧ ad s b ≤ 9218868437227405312 := by
  have hb' : 0 < b ∧ b < 9218868437227405312 := of_decide_eq_true hb
  obtain ⟨r, h1, h2⟩ := add_some s b hs (by omega)
  have : ad s b = r := by unfold ad; rw [h1]; rfl
  rw [this]
  exact ⟨h1, h2⟩

theorem sums_take (l : List Nat) (k : Nat) (hk : k < l.length) : sums (l.take (k + 1)) = ad (sums (l.take k)) (l[k]?.getD 0) := by
  unfold sums
  rw [List.take_add_one, List.foldl_append, List.getElem?_eq_getElem hk]
  rfl

theorem all_take {l : List Nat} {k : Nat} (hk : k < l.length) (h : pos (l[k]?.getD 0) = false) : l.all pos = false := by
  rw [List.getElem?_eq_getElem hk] at h
  apply Bool.eq_false_iff.2
  intro ha
  rw [List.all_eq_true] at ha
  have := ha l[k] (List.getElem_mem hk)
  rw [show pos l[k] = false from h] at this
  exact Bool.noConfusion this

theorem all_take_succ {l : List Nat} {k : Nat} (hk : k < l.length) (h0 : (l.take k).all pos = true) (h : pos (l[k]?.getD 0) = true) : (l.take (k + 1)).all pos = true := by
  rw [List.take_add_one, List.all_append, h0, List.getElem?_eq_getElem hk]
  rw [List.getElem?_eq_getElem hk] at h
  simpa using h

set_option maxRecDepth 100000 in
set_option maxHeartbeats 1000000 in
theorem total_any (ao : Option Addr) (n cap : Nat) (l : List Nat) (w : World) (hb : Fsl w ao n cap l) :
    Calls Try.prog 45 #[.slice ao n cap] w fun e w' => ∃ s, e = .returned (.tuple #[fl s, .bool (okW l)]) ∧ s < 18446744073709551616 ∧ (okW l = true → s = sums l) ∧ w = w' := by
  have hmx : n ≤ 9223372036854775807 := by have h1 := hb.2.2.1; have h2 := hb.2.1; unfold maxLen at h1; omega
  by_cases h0 : n = 0
  · subst h0
    have : l = [] := List.eq_nil_of_length_eq_zero hb.1
    subst this
    have hc := class_any 0 (by decide)
    rw [show cls 0 = 4 by decide] at hc
    go_enter Try.func45, Try.ntmps45
    go_wp2
    refine wp_loop_rounds 1 ?_
    rw [rounds_succ]
    go_wp2_with fail
    refine (hc _).mono ?_
    rintro e w' ⟨rfl, rfl⟩
    go_wp2_with fail
    go_ret2
    exact ⟨0, rfl, by decide, (fun h => by revert h; decide), rfl⟩
  · obtain ⟨blk, off, rfl, hcell⟩ := hb.at (by omega)
    have hl64 := W_hid hb.2.2.2.2.1
    have hlen := W_hid hb.1
    clear hb h0
    go_enter Try.func45, Try.ntmps45
    go_wp2
    go_loop [4, 9] (fun v i => ∃ k s : Nat, k ≤ n ∧ i = .int .i64 k ∧ v = fl s ∧ s ≤ 9218868437227405312 ∧ Hid (s = sums (l.take k)) ∧ Hid ((l.take k).all pos = true)) (fun _ i => n - (intOf i).toNat)
    case atStart => exact ⟨0, 0, Nat.zero_le _, rfl, rfl, by omega, rfl, rfl⟩
    case round =>
      obtain ⟨k, s, hk, rfl, rfl, hs, hsum, hall⟩ := hrel
      by_cases hlt : k < n
      · have hc := hcell k hlt
        have hx : l[k]?.getD 0 < 18446744073709551616 := by
          rw [List.getElem?_eq_getElem (by rw [hlen.out]; exact hlt)]
          exact hl64.out _ (List.getElem_mem _)
        have hcls := class_any _ hx
        obtain ⟨c, e1, -, e2⟩ := class5 _ hx
        rw [e1] at hcls
        have hstep : Hid (k < l.length → sums (l.take (k + 1)) = ad (sums (l.take k)) (l[k]?.getD 0)) := sums_take l k
        cases hp : pos (l[k]?.getD 0) with
        | false =>
          have hbad : Hid (okW l = false) := by
            show (l.all pos && pos (sums l)) = false
            rw [all_take (by rw [hlen.out]; exact hlt) hp]; rfl
          rw [hp] at e2
          have e2 : ((c : Int) != 5) = true := e2
          clear hp hcell hstep hsum hall e1
          generalize l[k]?.getD 0 = x at *
          go_wp2_with fail
          refine (hcls _).mono ?_
          rintro e w' ⟨rfl, rfl⟩
          go_wp2_with fail
          go_ret2
          exact ⟨0, by rw [hbad.out]; rfl, by decide, (fun h => by rw [hbad.out] at h; cases h), rfl⟩
        | true =>
          obtain ⟨ha1, ha2⟩ := ad_some s _ hs hp
          have hall' : Hid ((l.take (k + 1)).all pos = true) := all_take_succ (by rw [hlen.out]; exact hlt) hall.out hp
          have hsum' : Hid (ad s (l[k]?.getD 0) = sums (l.take (k + 1))) := by rw [hsum.out]; exact (hstep.out (by rw [hlen.out]; exact hlt)).symm
          rw [hp] at e2
          have e2 : ((c : Int) != 5) = false := e2
          clear hp hcell hstep hsum hall e1
          generalize l[k]?.getD 0 = x at *
          generalize ad s x = s' at *
          go_wp2_with fail
          refine (hcls _).mono ?_
          rintro e w' ⟨rfl, rfl⟩
          go_wp2_with (with_reducible show wpList _ _ _ _ _ _; refine wpList_float_some rfl rfl (.inl rfl) rfl rfl ha1 ?_)
          go_round
          case rel => exact ⟨k + 1, s', by omega, by go_num, rfl, ha2, hsum', hall'⟩
          case measure => simp [intOf]; omega
      · have hkn : k = n := by omega
        subst hkn
        have hcls := class_any s (by omega)
        obtain ⟨c, e1, e2, -⟩ := class5 s (by omega)
        rw [e1] at hcls
        have hok : Hid (okW l = pos s) := by
          have h1 := hall.out
          have h2 := hsum.out
          rw [List.take_of_length_le (by rw [hlen.out]; exact Nat.le_refl _)] at h1 h2
          show (l.all pos && pos (sums l)) = pos s
          rw [h1, h2]; rfl
        have hsum' : Hid (s = sums l) := by
          have h2 := hsum.out
          rwa [List.take_of_length_le (by rw [hlen.out]; exact Nat.le_refl _)] at h2
        clear hsum hall e1 hcell
        generalize pos s = B at *
        go_wp2_with fail
        refine (hcls _).mono ?_
        rintro e w' ⟨rfl, rfl⟩
        go_wp2_with fail
        go_ret2
        exact ⟨s, by rw [hok.out]; rfl, by omega, fun _ => hsum'.out, rfl⟩

theorem all_take_bad {l : List Nat} {k : Nat} (hk : k < l.length) {B : Bool} (h0 : (l.take k).all pos = B) (h : (B && pos (l[k]?.getD 0)) = false) : (l.take (k + 1)).all pos = false := by
  rw [List.take_add_one, List.all_append, h0, List.getElem?_eq_getElem hk]
  rw [List.getElem?_eq_getElem hk] at h
  simpa using h

set_option maxRecDepth 100000 in
set_option maxHeartbeats 1000000 in
theorem rsum_any (ao : Option Addr) (n cap : Nat) (l : List Nat) (w : World) (hb : Fsl w ao n cap l) :
    Calls Try.prog 76 #[.slice ao n cap] w fun e w' => ∃ s, e = .returned (.tuple #[fl s, .bool (okW l)]) ∧ s < 18446744073709551616 ∧ (okW l = true → s = sums l) ∧ Below w.heap.size w w' := by
  have hmx : n ≤ 9223372036854775807 := by have h1 := hb.2.2.1; have h2 := hb.2.1; unfold maxLen at h1; omega
  by_cases h0 : n = 0
  · subst h0
    have : l = [] := List.eq_nil_of_length_eq_zero hb.1
    subst this
    have hc := rclass_any 0 (by decide)
    rw [show cls 0 = 4 by decide] at hc
    go_enter Try.func76, Try.ntmps76
    go_wp2
    refine wp_loop_rounds 1 ?_
    rw [rounds_succ]
    go_wp2_with fail
    refine (hc _).mono ?_
    rintro e w' ⟨rfl, rfl⟩
    go_wp2_with fail
    go_ret2
    exact ⟨0, rfl, by decide, (fun h => by revert h; decide), Below.refl _ _⟩
  · obtain ⟨blk, off, rfl, hcell⟩ := hb.at (by omega)
    have hl64 := W_hid hb.2.2.2.2.1
    have hlen := W_hid hb.1
    clear hb h0
    go_enter Try.func76, Try.ntmps76
    go_wp2
    go_loopw [4, 5, 6] (fun v o i wr => ∃ (k s : Nat) (B : Bool), k ≤ n ∧ i = .int .i64 k ∧ v = fl s ∧ o = .bool B ∧ s < 18446744073709551616 ∧ Hid ((l.take k).all pos = B) ∧ Hid (B = true → s = sums (l.take k) ∧ s ≤ 9218868437227405312) ∧ Below w.heap.size w wr) (fun _ _ i _ => n - (intOf i).toNat)
    case atStart => exact ⟨0, 0, true, Nat.zero_le _, rfl, rfl, rfl, by omega, rfl, (fun _ => ⟨rfl, by omega⟩), Below.refl _ _⟩
    case round =>
      obtain ⟨k, s, B, hk, rfl, rfl, rfl, hs, hall, hsum, bel⟩ := hrel
      by_cases hlt : k < n
      · have hc := (bel.cell (World.block_lt_of_cell? w _ (hcell k hlt))).trans (hcell k hlt)
        have hx : l[k]?.getD 0 < 18446744073709551616 := by
          rw [List.getElem?_eq_getElem (by rw [hlen.out]; exact hlt)]
          exact hl64.out _ (List.getElem_mem _)
        have hcls := rclass_any _ hx
        obtain ⟨c, e1, e2, -⟩ := class5 _ hx
        rw [e1] at hcls
        have hstep : Hid (k < l.length → sums (l.take (k + 1)) = ad (sums (l.take k)) (l[k]?.getD 0)) := sums_take l k
        cases hg : (B && pos (l[k]?.getD 0)) with
        | true =>
          obtain ⟨rfl, hp⟩ : B = true ∧ pos (l[k]?.getD 0) = true := by rwa [Bool.and_eq_true] at hg
          obtain ⟨ha1, ha2⟩ := ad_some s _ (hsum.out rfl).2 hp
          have hall' : Hid ((l.take (k + 1)).all pos = true) := all_take_succ (by rw [hlen.out]; exact hlt) hall.out hp
          have hsum' : Hid (ad s (l[k]?.getD 0) = sums (l.take (k + 1))) := by rw [(hsum.out rfl).1]; exact (hstep.out (by rw [hlen.out]; exact hlt)).symm
          rw [hp] at e2
          clear hg hp hcell hstep hsum hall e1
          generalize l[k]?.getD 0 = x at *
          generalize ad s x = s' at *
          go_wp2_with fail
          refine (hcls _).mono ?_
          rintro e w' ⟨rfl, rfl⟩
          go_wp2_with (with_reducible show wpList _ _ _ _ _ _; refine wpList_float_some rfl rfl (.inl rfl) rfl rfl ha1 ?_)
          go_roundw
          case rel => exact ⟨k + 1, s', true, by omega, by go_num, rfl, rfl, by omega, hall', (fun _ => ⟨hsum'.out, ha2⟩), bel⟩
          case measure => simp [intOf]; omega
        | false =>
          have hall' : Hid ((l.take (k + 1)).all pos = false) := all_take_bad (by rw [hlen.out]; exact hlt) hall.out hg
          generalize hp : pos (l[k]?.getD 0) = p at *
          clear hp hcell hstep hsum hall e1
          generalize l[k]?.getD 0 = x at *
          cases B with
          | false =>
            clear hg
            go_wp2_with fail
            refine (hcls _).mono ?_
            rintro e w' ⟨rfl, rfl⟩
            go_wp2_with (with_reducible show wpList _ _ _ _ _ _; refine wpList_float rfl rfl (.inl rfl) rfl rfl ?_; intro r1 n1 hr1 hv1)
            clear hv1
            go_roundw
            case rel => exact ⟨k + 1, r1, false, by omega, by go_num, rfl, rfl, hr1, hall', (fun h => by cases h), below_drewN bel _⟩
            case measure => simp [intOf]; omega
          | true =>
            have hp : p = false := by simpa using hg
            subst hp
            clear hg
            go_wp2_with fail
            refine (hcls _).mono ?_
            rintro e w' ⟨rfl, rfl⟩
            go_wp2_with (with_reducible show wpList _ _ _ _ _ _; refine wpList_float rfl rfl (.inl rfl) rfl rfl ?_; intro r1 n1 hr1 hv1)
            clear hv1
            go_roundw
            case rel => exact ⟨k + 1, r1, false, by omega, by go_num, rfl, rfl, hr1, hall', (fun h => by cases h), below_drewN bel _⟩
            case measure => simp [intOf]; omega
      · have hkn : k = n := by omega
        subst hkn
        have hcls := rclass_any s hs
        obtain ⟨c, e1, e2, -⟩ := class5 s hs
        rw [e1] at hcls
        have h1 := hall.out
        have h2 := hsum.out
        rw [List.take_of_length_le (by rw [hlen.out]; exact Nat.le_refl _)] at h1 h2
        have hok : Hid (okW l = (B && pos s)) := by
          show (l.all pos && pos (sums l)) = (B && pos s)
          rw [h1]
          cases B with
          | false => rfl
          | true => rw [(h2 rfl).1]
        have hsum' : Hid (okW l = true → s = sums l) := fun h => (h2 (by rw [hok.out, Bool.and_eq_true] at h; exact h.1)).1
        clear hsum hall e1 hcell h1 h2
        generalize pos s = p at *
        cases B
        all_goals
          go_wp2_with fail
          refine (hcls _).mono ?_
          rintro e w' ⟨rfl, rfl⟩
          go_wp2_with fail
          go_ret2
          exact ⟨s, by rw [hok.out]; rfl, hs, hsum'.out, bel⟩

end Go.Proofs.Ytmikgkelmdgckaa
