/- The document's table of processes in memory; its New, at, runs, IsNice, Get, Nice. -/
import Derived.Test.YtahcpimpmedbiaaPrcAll
import Derived.Deep.RegionLaw
namespace Go.Proofs.Ytahcpimpmedbiaa
open Go.ChangeShapes Go.WideShapes Go.ChangeAt Go.RowKit Go.Maps
set_option linter.unusedVariables false
set_option linter.unusedSimpArgs false
set_option maxRecDepth 100000
namespace PC
open IS (I64)
open IN (Keeps lt_of_some)

structure DM (base : Nat) (w : World) (rb N : Nat) (v : Value) (L : List Pr) : Prop where
  box : Blk w rb 38 [.int .i64 (N : Int), v]
  row : w.ownsRow base 43 5 v L.length (pcl L)
  ge : base ≤ rb
def DX (rb : Nat) (v : Value) (k : Nat) : Prop := k = rb ∨ v.ownBlock = some k
section
variable {base : Nat} {w w' : World} {rb N : Nat} {v : Value} {L : List Pr}
theorem DM.base_le (h : DM base w rb N v L) : base ≤ w.heap.size := Nat.le_trans h.ge (Nat.le_of_lt h.box.lt)
theorem own_obj {w : World} {base e size n : Nat} {v : Value} {xs : List Value} (h : w.ownsRow base e size v n xs) {k : Nat} (hk : v.ownBlock = some k) : ∃ cur, w.heap[k]? = some (.cells cur e (0, 0)) := by
  rcases h.2 with ⟨rfl, _⟩ | ⟨g, cap, cur, rfl, hb, hg, _⟩
  · cases hk
  · simp only [Value.ownBlock, Option.some.injEq] at hk
    subst hk
    exact ⟨cur, hg⟩
theorem own_move {w w' : World} {base e size n : Nat} {v : Value} {xs : List Value} (h : w.ownsRow base e size v n xs) (hk : ∀ k, v.ownBlock = some k → w'.heap[k]? = w.heap[k]?) : w'.ownsRow base e size v n xs := by
  rcases h.2 with h0 | ⟨g, cap, cur, rfl, hb, hg, h3⟩
  · exact ⟨h.1, .inl h0⟩
  · exact ⟨h.1, .inr ⟨g, cap, cur, rfl, hb, (hk g rfl).trans hg, h3⟩⟩
theorem DM.tlt (h : DM base w rb N v L) : ∀ k, DX rb v k → k < w.heap.size := by
  rintro k (rfl | hk)
  · exact h.box.lt
  · obtain ⟨cur, hc⟩ := own_obj h.row hk
    exact lt_of_some hc
theorem DM.low (h : DM base w rb N v L) : ∀ k, DX rb v k → base ≤ k := by
  rintro k (rfl | hk)
  · exact h.ge
  · exact Own.ge h.row k hk
theorem DM.moved (h : DM base w rb N v L) (hk : ∀ k, DX rb v k → w'.heap[k]? = w.heap[k]?) : DM base w' rb N v L :=
  ⟨(hk rb (.inl rfl)).trans h.box, own_move h.row fun k hv => hk k (.inr hv), h.ge⟩
theorem DM.keep (h : DM base w rb N v L) (hb : Below w.heap.size w w') : DM base w' rb N v L := h.moved fun k hk => hb.block k (h.tlt k hk)
theorem DM.drewN (h : DM base w rb N v L) (n : Nat) : DM base (w.drewN n) rb N v L := h.moved fun _ _ => rfl
theorem DM.keeps (h : DM base w rb N v L) {C : Nat} {Y : Nat → Prop} (hK : Keeps C (fun k _ => Y k) w w') (hY : ∀ k, DX rb v k → ¬ Y k) : DM base w' rb N v L :=
  h.moved fun k hk => by
    have hlt := h.tlt k hk
    obtain ⟨o, ho⟩ : ∃ o, w.heap[k]? = some o := ⟨_, Array.getElem?_eq_getElem hlt⟩
    rw [ho, hK.block k o ho (hY k hk)]
/-- An element, as the walk wants it. -/
theorem DM.opened (h : DM base w rb N v L) {p : Nat} (hp : p < L.length) : ∃ g n cap, v = .slice (some ⟨g, 0, none⟩) n cap ∧ L.length = n ∧ (p : Int) < (n : Int) ∧ n ≤ cap ∧ cap ≤ 9223372036854775807 ∧ base ≤ g ∧ g ≠ rb ∧ g < w.heap.size ∧ rb < w.heap.size ∧ (∀ j, w.frozen? ⟨g, j, none⟩ = false) ∧ (∀ j, w.frozen? ⟨rb, j, none⟩ = false) ∧
    w.cell? ⟨rb, 0, none⟩ = some (.int .i64 (N : Int)) ∧ w.cell? ⟨rb, 1, none⟩ = some (.slice (some ⟨g, 0, none⟩) n cap) ∧
    w.cell? ⟨g, p * 5, none⟩ = some (.int .i64 L[p].pid) ∧ w.cell? ⟨g, p * 5 + 1, none⟩ = some (.int .i64 L[p].par) ∧ w.cell? ⟨g, p * 5 + 2, none⟩ = some (.int .i64 L[p].st) ∧ w.cell? ⟨g, p * 5 + 3, none⟩ = some (.int .i64 L[p].code) ∧ w.cell? ⟨g, p * 5 + 4, none⟩ = some (.int .i64 L[p].nice) := by
  have hr := h.row
  rcases hr.2 with ⟨rfl, h0⟩ | ⟨g, cap, cur, rfl, hb, hg, h1, h2, h3, h4⟩
  · omega
  · have hne : g ≠ rb := by
      rintro rfl
      have hx := h.box
      unfold Blk at hx
      rw [hx] at hg
      simp only [Option.some.injEq, Obj.cells.injEq] at hg
      exact absurd hg.2.1 (by decide)
    have hc : ∀ m u, m < 5 → (prow L[p])[m]? = some u → w.cell? ⟨g, p * 5 + m, none⟩ = some u := fun m u hm hu => by
      have := hr.cells (g := g) rfl (p * 5 + m) u (by rw [pcl_get L p hp m hm]; exact hu)
      rw [Addr.add_lit, Nat.zero_add] at this
      exact this
    exact ⟨g, _, cap, rfl, rfl, by omega, h1, h2, hb, hne, lt_of_some hg, h.box.lt, fun j => hr.frozenAt j, h.box.fz, h.box.cell rfl, h.box.cell rfl, by have := hc 0 _ (by omega) rfl; rwa [Nat.add_zero] at this, hc 1 _ (by omega) rfl, hc 2 _ (by omega) rfl, hc 3 _ (by omega) rfl, hc 4 _ (by omega) rfl⟩
/-- A store into an element. -/
theorem DM.set {g cap n : Nat} (h : DM base w rb N (.slice (some ⟨g, 0, none⟩) n cap) L) (hn : L.length = n) {i : Nat} (hi : i < L.length) (m : Nat) (u : Value) (hm : m < 5) (x : Pr) (hx : (prow L[i]).set m u = prow x) :
    DM base (w.setCell ⟨g, i * 5 + m, none⟩ u) rb N (.slice (some ⟨g, 0, none⟩) n cap) (L.set i x) ∧ Keeps base (fun k _ => DX rb (.slice (some ⟨g, 0, none⟩) n cap) k) w (w.setCell ⟨g, i * 5 + m, none⟩ u) := by
  subst hn
  obtain ⟨g', n', cap', e, -, -, -, -, hb, hne, hlt, -⟩ := h.opened hi
  simp only [Value.slice.injEq, Option.some.injEq, Addr.mk.injEq, and_true, true_and] at e
  obtain ⟨rfl, -, -⟩ := e
  have hs := (h.row.stored (i * 5 + m) u).1
  rw [pcl_set L i hi m u hm x hx] at hs
  refine ⟨⟨h.box.far (p := ⟨g, i * 5 + m, none⟩) (fun e => hne e.symm) u, by rw [List.length_set]; exact hs, h.ge⟩, ?_⟩
  obtain ⟨cur, hc⟩ := own_obj h.row (k := g) rfl
  exact (Keeps.refl base _ w).setCell (p := ⟨g, i * 5 + m, none⟩) hc (.inr rfl) hb u
/-- Another row. -/
theorem DM.newRow {w1 : World} (h : DM base w rb N v L) (hb : Below w.heap.size w w1) {v' : Value} {L' : List Pr} (ho : w1.ownsRow w.heap.size 43 5 v' L'.length (pcl L')) :
    DM base (w1.setCell ⟨rb, 1, none⟩ v') rb N v' L' ∧ Keeps base (fun k _ => DX rb v k) w (w1.setCell ⟨rb, 1, none⟩ v') ∧ ∀ k, DX rb v' k → DX rb v k ∨ w.heap.size ≤ k := by
  have h1 := h.keep hb
  have hlt := h.box.lt
  refine ⟨⟨h1.box.set 1 v', Own.low h.base_le (Own.set ho (p := ⟨rb, 1, none⟩) hlt v'), h.ge⟩, ?_, ?_⟩
  · exact (Keeps.new hb h.base_le).trans ((Keeps.refl base _ w1).setCell (p := ⟨rb, 1, none⟩) h1.box (.inl rfl) h.ge v')
  · rintro k (rfl | hk)
    · exact .inl (.inl rfl)
    · exact .inr (Own.ge ho k hk)
end
/-- The document's table, with the blocks that it is. -/
def DW (base : Nat) (w : World) (rb N : Nat) (L : List Pr) (Y : Nat → Prop) : Prop := ∃ v, DM base w rb N v L ∧ ∀ k, Y k ↔ DX rb v k
def DO (base : Nat) (w : World) (rb N : Nat) (L : List Pr) (Y : Nat → Prop) (w' : World) : Prop := ∃ Y', DW base w' rb N L Y' ∧ Keeps base (fun k _ => Y k) w w' ∧ ∀ k, Y' k → Y k ∨ w.heap.size ≤ k
section
variable {base : Nat} {w w' : World} {rb N : Nat} {L : List Pr} {Y : Nat → Prop}
theorem DW.lt (h : DW base w rb N L Y) : ∀ k, Y k → k < w.heap.size := by
  obtain ⟨v, h1, h2⟩ := h
  exact fun k hk => h1.tlt k ((h2 k).1 hk)
theorem DW.base_le (h : DW base w rb N L Y) : base ≤ w.heap.size := by
  obtain ⟨v, h1, h2⟩ := h
  exact h1.base_le
theorem DW.keeps (h : DW base w rb N L Y) {C : Nat} {X : Nat → Prop} (hK : Keeps C (fun k _ => X k) w w') (hX : ∀ k, Y k → ¬ X k) : DW base w' rb N L Y := by
  obtain ⟨v, h1, h2⟩ := h
  exact ⟨v, h1.keeps hK fun k hk => hX k ((h2 k).2 hk), h2⟩
theorem DW.keep (h : DW base w rb N L Y) (hb : Below w.heap.size w w') : DW base w' rb N L Y := by
  obtain ⟨v, h1, h2⟩ := h
  exact ⟨v, h1.keep hb, h2⟩
theorem DW.same (h : DW base w rb N L Y) (hb : Below w.heap.size w w') : DO base w rb N L Y w' :=
  ⟨Y, h.keep hb, Keeps.new hb h.base_le, fun k hk => .inl hk⟩
end

theorem rIsNice_any (n : Int) (w : World) : Calls Try.prog 36 #[.int .i64 n] w fun e w' => e = .returned (.bool (isNice n)) ∧ w = w' := by
  obtain ⟨r, hr⟩ : ∃ r, isNice n = r := ⟨_, rfl⟩
  rw [hr]
  by_cases h1 : -20 ≤ n
  · by_cases h2 : n ≤ 19
    · have : r = true := by rw [← hr]; simp [isNice, h1, h2]
      subst this
      clear hr
      go_enter Try.func36, Try.ntmps36
      go_wp2
      go_ret
      exact ⟨rfl, rfl⟩
    · have : r = false := by rw [← hr]; simp [isNice, h1, h2]
      subst this
      clear hr
      go_enter Try.func36, Try.ntmps36
      go_wp2
      go_ret
      exact ⟨rfl, rfl⟩
  · have : r = false := by rw [← hr]; simp [isNice, h1]
    subst this
    clear hr
    go_enter Try.func36, Try.ntmps36
    go_wp2
    go_ret
    exact ⟨rfl, rfl⟩

theorem rpNew_no (n : Int) (hn : n < 1 ∨ 1024 < n) (w : World) : Calls Try.prog 12 #[.int .i64 n] w fun e w' => e = .returned (.tuple #[.pointer none, .int .i64 2]) ∧ w = w' := by
  by_cases h1 : n < 1
  · clear hn
    go_enter Try.func12, Try.ntmps12
    go_wp2
    go_ret2
    exact ⟨rfl, rfl⟩
  · have h2 : 1024 < n := by omega
    have h3 : decide (n < 1) = false := by simp; omega
    clear hn
    go_enter Try.func12, Try.ntmps12
    go_wp2
    go_ret2
    exact ⟨rfl, rfl⟩
theorem rpNew_yes (N : Nat) (h1 : 1 ≤ N) (h2 : N ≤ 1024) (w : World) : Calls Try.prog 12 #[.int .i64 (N : Int)] w fun e w' => ∃ rb Y, e = .returned (.tuple #[.pointer (some ⟨rb, 0, none⟩), .int .i64 0]) ∧ DW w.heap.size w' rb N [⟨1, 0, 1, 0, 0⟩] Y ∧ Below w.heap.size w w' ∧ ∀ k, Y k → w.heap.size ≤ k := by
  have h3 : decide ((N : Int) < 1) = false := by simp; omega
  have h4 : decide ((1024 : Int) < (N : Int)) = false := by simp; omega
  have hend : Hid (DM w.heap.size ((w.alloc (.cells #[.int .i64 1, .int .i64 0, .int .i64 1, .int .i64 0, .int .i64 0] 43)).alloc (.cells #[.int .i64 (N : Int), .slice (some ⟨w.heap.size, 0, none⟩) 1 1] 38)) (w.heap.size + 1) N (.slice (some ⟨w.heap.size, 0, none⟩) 1 1) [⟨1, 0, 1, 0, 0⟩] ∧ Below w.heap.size w ((w.alloc (.cells #[.int .i64 1, .int .i64 0, .int .i64 1, .int .i64 0, .int .i64 0] 43)).alloc (.cells #[.int .i64 (N : Int), .slice (some ⟨w.heap.size, 0, none⟩) 1 1] 38))) := W_hid (by
    refine ⟨⟨Blk.new _ _ [.int .i64 (N : Int), .slice (some ⟨w.heap.size, 0, none⟩) 1 1] (by simp), ?_, by omega⟩, ((Below.refl _ _).alloc (Nat.le_refl _) _).alloc (by simp) _⟩
    refine ⟨rfl, .inr ⟨w.heap.size, 1, _, rfl, Nat.le_refl _, (Blk.new w 43 (prow ⟨1, 0, 1, 0, 0⟩) rfl).alloc _, Nat.le_refl _, by unfold maxLen; omega, rfl, rfl⟩⟩)
  go_enter Try.func12, Try.ntmps12
  go_wp2_with fail
  go_ret2
  refine ⟨w.heap.size + 1, DX _ _, by simp, ⟨_, hend.out.1, fun k => Iff.rfl⟩, hend.out.2, ?_⟩
  rintro k (rfl | hk)
  · omega
  · simp [Value.ownBlock] at hk; omega

section
variable {base : Nat} {w w' : World} {rb N : Nat} {v : Value} {L : List Pr} {Y : Nat → Prop}
def posR (L : List Pr) (p : Int) : Int := if pos L p < L.length then (pos L p : Int) else -1
theorem rpat_any (p : Int) (h : DM base w rb N v L) (hlen : L.length ≤ 1024) :
    Calls Try.prog 39 #[.pointer (some ⟨rb, 0, none⟩), .int .i64 p] w fun e w' => e = .returned (.int .i64 (posR L p)) ∧ w = w' := by
  have c7 := h.box.cell (j := 1) rfl
  obtain ⟨ao, cap, hv⟩ := Own.form h.row
  have hE := W_hid (fun i (hi : i < L.length) => h.opened hi)
  rw [hv] at hE
  subst hv
  obtain ⟨n, hn⟩ : ∃ n, L.length = n := ⟨_, rfl⟩
  have hle := pos_le L p
  have hne : Hid (∀ j (hj : j < L.length), j < pos L p → L[j].pid ≠ p) := W_hid fun j hj h => pos_ne hj h
  have heq : Hid (∀ j (hj : j < L.length), j = pos L p → L[j].pid = p) := W_hid fun j hj e => by subst e; exact pos_eq hj
  unfold posR
  obtain ⟨K, hK⟩ : ∃ K, pos L p = K := ⟨_, rfl⟩
  rw [hK] at hne heq hle ⊢
  rw [hn] at c7 hle hlen ⊢
  replace hn := W_hid hn
  clear h hK
  go_enter Try.func39, Try.ntmps39
  go_wp2_with fail
  go_loopw [5] (fun i wr => ∃ k : Nat, k ≤ K ∧ i = .int .i64 (k : Int) ∧ w = wr) (fun i _ => n - (intOf i).toNat)
  case atStart => exact ⟨0, Nat.zero_le _, rfl, rfl⟩
  case round =>
    obtain ⟨k, hk, rfl, hwr⟩ := hrel
    subst hwr
    by_cases hlt : k < n
    · have hkq : k < L.length := by rw [hn.out]; exact hlt
      obtain ⟨g, n', cap', hv, hn', -, -, -, -, -, -, -, -, -, -, -, e0, -⟩ := hE.out k hkq
      simp only [Value.slice.injEq] at hv
      obtain ⟨rfl, -, -⟩ := hv
      clear hn' n'
      by_cases hkK : k < K
      · have hx := hne.out k hkq hkK
        obtain ⟨a, ha⟩ : ∃ a, L[k].pid = a := ⟨_, rfl⟩
        rw [ha] at e0 hx
        clear ha hkq
        go_wp2_with fail
        go_roundw
        case rel => exact ⟨k + 1, by omega, by go_num, by first | trivial | rfl⟩
        case measure => simp [intOf]; omega
      · obtain rfl : k = K := by omega
        have hx := heq.out k hkq rfl
        rw [hx] at e0
        clear hx hkq
        go_wp2_with fail
        go_ret
        exact ⟨by first | rfl | exact ret_i64 (if_pos hlt).symm | simp [hlt], by first | trivial | rfl⟩
    · obtain rfl : k = K := by omega
      have hkN : k = n := by omega
      replace hkN := W_hid hkN
      have hge : (n : Int) ≤ (k : Int) := by omega
      go_wp2_with fail
      go_ret
      exact ⟨by first | rfl | exact ret_i64 (if_neg hlt).symm | simp [hlt], by first | trivial | rfl⟩
def runR (L : List Pr) (p : Int) : Int := if runs L p = true then (pos L p : Int) else -1
theorem runs_pos {L : List Pr} {p : Int} (h : runs L p = true) : ∃ hp : pos L p < L.length, L[pos L p].st = 1 := by
  obtain ⟨x, hx, hst⟩ := run_of h
  have hp := pos_lt hx
  rw [get_pos hp] at hx
  cases hx
  exact ⟨hp, hst⟩
theorem rpruns_any (p : Int) (h : DM base w rb N v L) (hlen : L.length ≤ 1024) :
    Calls Try.prog 37 #[.pointer (some ⟨rb, 0, none⟩), .int .i64 p] w fun e w' => e = .returned (.int .i64 (runR L p)) ∧ w = w' := by
  have hat := rpat_any p h hlen
  unfold posR at hat
  unfold runR
  by_cases hlt : pos L p < L.length
  · rw [if_pos hlt] at hat
    obtain ⟨g, n, cap, rfl, hn, hpn, hnc, hcm, -, -, -, -, -, -, -, c1, -, -, e2, -⟩ := h.opened hlt
    have hg := get_pos hlt
    obtain ⟨st, hst⟩ : ∃ st, L[pos L p].st = st := ⟨_, rfl⟩
    have hr : runs L p = decide (st = 1) := by unfold runs; rw [hg]; simp [isRun, hst]
    rw [hst] at e2
    rw [hr]
    obtain ⟨q, hq⟩ : ∃ q, pos L p = q := ⟨_, rfl⟩
    simp only [hq] at hat hpn e2 ⊢
    have hq0 : decide ((0 : Int) ≤ (q : Int)) = true := by simp
    clear h hlt hst hr hq hg hn
    by_cases h1 : st = 1
    · subst h1
      rw [if_pos (by simp)]
      go_enter Try.func37, Try.ntmps37
      go_wp2_with (go_at_call 39; refine hat.mono ?_; rintro e w' ⟨rfl, rfl⟩)
      go_ret
      exact ⟨rfl, rfl⟩
    · rw [if_neg (by simp [h1])]
      have h2 : (st != 1) = true := by simp [h1]
      go_enter Try.func37, Try.ntmps37
      go_wp2_with (go_at_call 39; refine hat.mono ?_; rintro e w' ⟨rfl, rfl⟩)
      go_ret
      exact ⟨rfl, rfl⟩
  · rw [if_neg hlt] at hat
    have hr : runs L p = false := by unfold runs; rw [get_pos_none hlt]; rfl
    rw [hr, if_neg (by simp)]
    clear h hlt hr
    go_enter Try.func37, Try.ntmps37
    go_wp2_with (go_at_call 39; refine hat.mono ?_; rintro e w' ⟨rfl, rfl⟩)
    go_ret
    exact ⟨rfl, rfl⟩
end
end PC
end Go.Proofs.Ytahcpimpmedbiaa
