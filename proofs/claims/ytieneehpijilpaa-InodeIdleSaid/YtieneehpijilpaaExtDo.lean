/- Contracts of Stored, Cut and Write, the program's, for all lists. -/
import Derived.Test.YtieneehpijilpaaExtJoin
namespace Go.Proofs.Ytieneehpijilpaa
open Go.ChangeShapes Go.WideShapes Go.ChangeAt Go.RowKit
set_option linter.unusedVariables false
set_option linter.unusedSimpArgs false

/-- What Stored answers. -/
def stV (l : List (Int × ByteArray)) : Int := if EM.ok 0 l = true then (EM.cnt l : Int) else 0
def stE (l : List (Int × ByteArray)) : Int := if EM.ok 0 l = true then 0 else 2

set_option maxRecDepth 100000 in
set_option maxHeartbeats 1000000 in
theorem Stored_any (ao : Option Addr) (n cap : Nat) (l : List (Int × ByteArray)) (w : World) (h : XS w ao n cap l) (hf : XFit l) :
    Calls Try.prog 76 #[.slice ao n cap] w fun e w' => e = .returned (.tuple #[.int .i64 (stV l), .int .i64 (stE l)]) ∧ Below w.heap.size w w' := by
  have hval := xvalid_any ao n cap l w h hf
  have H := W_hid h
  cases hv : EM.ok 0 l with
  | false =>
    have e1 : Hid (stV l = 0 ∧ stE l = 2) := by unfold stV stE; rw [hv]; exact ⟨rfl, rfl⟩
    rw [hv] at hval
    have hval := W_hid hval
    clear hv h
    go_enter Try.func76, Try.ntmps76
    go_wp2_with fail
    refine hval.out.mono ?_
    rintro e w1 ⟨rfl, bel1⟩
    go_wp2_with fail
    go_ret2
    exact ⟨by rw [e1.out.1, e1.out.2]; rfl, bel1⟩
  | true =>
    have e1 : Hid (stV l = EM.cnt l ∧ stE l = 0) := by unfold stV stE; rw [hv]; exact ⟨rfl, rfl⟩
    have hc := W_hid (fun w h => count_any ao n cap l w h (by have := (ok_nums hv).2; omega))
    rw [hv] at hval
    have hval := W_hid hval
    clear hv h
    go_enter Try.func76, Try.ntmps76
    go_wp2_with fail
    refine hval.out.mono ?_
    rintro e w1 ⟨rfl, bel1⟩
    go_wp2_with fail
    refine (hc.out _ (H.out.below bel1 (Nat.le_refl _))).mono ?_
    rintro e w2 ⟨rfl, bel2⟩
    go_wp2_with fail
    go_ret2
    exact ⟨by rw [e1.out.1, e1.out.2]; rfl, bel1.trans (bel2.mono bel1.size)⟩

/-- What a call answers that answers a list and a number of an error. -/
def Gave (L : List (Int × ByteArray)) (E : Int) (w : World) (e : Ending) (w' : World) : Prop := ∃ v, e = .returned (.tuple #[v, .int .i64 E]) ∧
      w'.ownsRow w.heap.size 94 2 v L.length (ecl L) ∧ Below w.heap.size w w'
theorem gave_no {L : List (Int × ByteArray)} {E : Int} {w w' : World} {k : Int} (h : L = [] ∧ E = k) (hb : Below w.heap.size w w') : Gave L E w (.returned (.tuple #[.slice none 0 0, .int .i64 k])) w' := by
  obtain ⟨rfl, rfl⟩ := h
  exact ⟨_, rfl, World.ownsRow_nil _ _ _ _, hb⟩

/-- One list as a list of lists. -/
theorem LS_one {w : World} {v : Value} {ao : Option Addr} {n c : Nat} {l : List (Int × ByteArray)} {t : TypeId} (hv : v = .slice ao n c) (h : XS w ao n c l) : LS (w.alloc (.cells #[v] t)) (some ⟨w.heap.size, 0, none⟩) 1 1 [(v, l)] := by
  refine ⟨rfl, by decide, by unfold maxLen; omega, (fun h => by cases h), fun a ha j u hu => ?_, fun p hp => ?_⟩
  · obtain rfl := Option.some.inj ha
    have hj : j < 1 := (List.getElem?_eq_some_iff.1 hu).1
    obtain rfl : j = 0 := by omega
    obtain rfl : (v, l) = u := by simpa using hu
    exact cell_one_new w v t 0 v rfl
  · obtain rfl := List.mem_singleton.1 hp
    exact ⟨ao, n, c, hv, h.alloc _⟩

/-- What Cut answers. -/
def ctL (l : List (Int × ByteArray)) (s : Int) : List (Int × ByteArray) := if EM.ok 0 l = true ∧ 0 ≤ s then EM.part 0 s l else []
def ctE (l : List (Int × ByteArray)) (s : Int) : Int := if EM.ok 0 l = true ∧ 0 ≤ s then 0 else 2

set_option maxRecDepth 100000 in
set_option maxHeartbeats 1000000 in
theorem Cut_any (ao : Option Addr) (n cap : Nat) (l : List (Int × ByteArray)) (s : Int) (w : World) (h : XS w ao n cap l) (hf : XFit l) (hs : I64 s) :
    Calls Try.prog 51 #[.slice ao n cap, .int .i64 s] w (Gave (ctL l s) (ctE l s) w) := by
  have hval := xvalid_any ao n cap l w h hf
  have H := W_hid h
  cases hv : EM.ok 0 l with
  | false =>
    have HE := W_hid (fun w' => @gave_no (ctL l s) (ctE l s) w w' 2 (by unfold ctL ctE; rw [hv]; exact ⟨if_neg (by simp), if_neg (by simp)⟩))
    rw [hv] at hval
    have hval := W_hid hval
    clear hv h
    go_enter Try.func51, Try.ntmps51
    go_wp2_with fail
    refine hval.out.mono ?_
    rintro e w1 ⟨rfl, bel1⟩
    go_wp2_with fail
    go_ret2
    exact HE.out _ bel1
  | true =>
    by_cases hs0 : s < 0
    · have HE := W_hid (fun w' => @gave_no (ctL l s) (ctE l s) w w' 2 (by unfold ctL ctE; rw [hv]; exact ⟨if_neg (by omega), if_neg (by omega)⟩))
      rw [hv] at hval
      have hval := W_hid hval
      clear hv h
      go_enter Try.func51, Try.ntmps51
      go_wp2_with fail
      refine hval.out.mono ?_
      rintro e w1 ⟨rfl, bel1⟩
      go_wp2_with fail
      go_ret2
      exact HE.out _ bel1
    · have e1 : Hid (ctL l s = EM.part 0 s l ∧ ctE l s = 0) := by unfold ctL ctE; rw [hv]; exact ⟨if_pos ⟨rfl, by omega⟩, if_pos ⟨rfl, by omega⟩⟩
      have hpt := W_hid (fun w h => part_any ao n cap l 0 s w h hv (by unfold I64; omega) hs)
      have hok := W_hid (EM.ok_part hv 0 s (Int.le_refl _))
      rw [hv] at hval
      have hval := W_hid hval
      clear hv h
      go_enter Try.func51, Try.ntmps51
      go_wp2_with fail
      refine hval.out.mono ?_
      rintro e w1 ⟨rfl, bel1⟩
      go_wp2_with fail
      refine (hpt.out _ (H.out.below bel1 (Nat.le_refl _))).mono ?_
      rintro e w2 ⟨v, rfl, hown2, bel2⟩
      obtain ⟨o2, c2, rfl⟩ := Own.form hown2
      have hj := joined_any _ 1 1 _ _ (LS_one (t := 70) rfl (XS_own hown2)) (by rw [alls_one]; exact EM.ok_wk hok.out)
      rw [alls_one, EM.merge_id hok.out] at hj
      have hj := W_hid hj
      have bel3 := bel1.trans (bel2.mono bel1.size)
      have bel4 := bel3.alloc bel3.size (.cells #[.slice o2 (EM.part 0 s l).length c2] 70)
      go_wp2_with fail
      refine hj.out.mono ?_
      rintro e w3 ⟨v3, rfl, hown3, bel5⟩
      go_wp2_with fail
      go_ret2
      refine ⟨v3, by rw [e1.out.2]; rfl, ?_, bel4.trans (bel5.mono bel4.size)⟩
      rw [e1.out.1]
      exact Own.low bel4.size hown3

end Go.Proofs.Ytieneehpijilpaa
