/- Layer 15: calls that came in, ran. -/
import Derived.Test.YtmikgkelmdgckaaSchDoes
import Derived.Deep.Slices
import Derived.ChangeOld
import Derived.WalkLawsBesides
namespace Go.Proofs.Ytmikgkelmdgckaa
open Go.ChangeShapes Go.WideShapes Go.ChangeAt Go.RowKit
set_option linter.unusedVariables false
set_option linter.unusedSimpArgs false
/-- A call. -/
abbrev OpT15 := Int × Int × Int × Nat
/-- What the walk is told of a slice of calls that came in. -/
def OS15 (w : World) (a : Option Addr) (len cap : Nat) (l : List OpT15) : Prop :=
  len ≤ maxLen ∧ l.length = len ∧ ∀ j (hj : j < l.length), ∃ blk off, a = some ⟨blk, off, none⟩ ∧ blk < w.heap.size ∧ w.cell? ⟨blk, off + j * 4, none⟩ = some (.int .i64 l[j].1) ∧ w.cell? ⟨blk, off + j * 4 + 1, none⟩ = some (.int .i64 l[j].2.1) ∧ w.cell? ⟨blk, off + j * 4 + 2, none⟩ = some (.int .i64 l[j].2.2.1) ∧ w.cell? ⟨blk, off + j * 4 + 3, none⟩ = some (.int .u64 (l[j].2.2.2 : Int)) ∧ -9223372036854775808 ≤ l[j].1 ∧ l[j].1 ≤ 9223372036854775807 ∧ -9223372036854775808 ≤ l[j].2.1 ∧ l[j].2.1 ≤ 9223372036854775807 ∧ -9223372036854775808 ≤ l[j].2.2.1 ∧ l[j].2.2.1 ≤ 9223372036854775807 ∧ l[j].2.2.2 < 18446744073709551616

set_option maxRecDepth 100000 in
theorem open_ops15 {H : Type} {enc : TypeId × Value → H} {W : World} {r : Reach} {b0 : Nat} {v : Value} {d : DataW H} {p : List MemPlace} (hv : Value.okWide Try.prog W r b0 22 v)
    (h : DataW.Trod enc Try.prog W 0 (fun _ => true) true 22 v d p) :
    ∃ (ao : Option Addr) (n cap : Nat) (l : List OpT15), v = .slice ao n cap ∧ OS15 W ao n cap l := by
  obtain ⟨a, len, cap, rfl⟩ := okWide_slice Try.underlying22 hv
  obtain ⟨fuel, hf⟩ := h
  rcases Deep.open_slice Try.underlying22 hf with ⟨e1, -⟩ | ⟨x, len', cap', m, n, D, Pl, e1, hb, hl, hm, hmm, -, hx⟩
  · simp [Value.cells] at e1
    obtain ⟨rfl, rfl, rfl⟩ := e1
    exact ⟨none, 0, 0, [], rfl, Nat.zero_le _, rfl, fun j hj => by simp at hj⟩
  · simp [Value.cells] at e1
    obtain ⟨rfl, rfl, rfl⟩ := e1
    have hlm : len ≤ m := by rw [hmm]; split <;> omega
    have each : ∀ i, i < len → ∃ q : OpT15, W.cell? (x.add (i * 4)) = some (.int .i64 q.1) ∧ W.cell? (x.add (i * 4 + 1)) = some (.int .i64 q.2.1) ∧ W.cell? (x.add (i * 4 + 2)) = some (.int .i64 q.2.2.1) ∧ W.cell? (x.add (i * 4 + 3)) = some (.int .u64 (q.2.2.2 : Int)) ∧ -9223372036854775808 ≤ q.1 ∧ q.1 ≤ 9223372036854775807 ∧ -9223372036854775808 ≤ q.2.1 ∧ q.2.1 ≤ 9223372036854775807 ∧ -9223372036854775808 ≤ q.2.2.1 ∧ q.2.2.1 ≤ 9223372036854775807 ∧ q.2.2.2 < 18446744073709551616 := by
      intro i hi
      obtain ⟨cs', h1, h2⟩ := hx i (by omega)
      rw [show Try.prog.cellsOf 47 = 4 from by kernel_rfl] at h1
      obtain ⟨_, hlen, hcell⟩ := World.cells?_some h1
      obtain ⟨xs, k, hk, hxy, _, hxl, hff⟩ := DataW.trod_struct Try.underlying47 h2
      match xs, hxl, cs', hlen with
      | [y0, y1, y2, y3], _, [v0, v1, v2, v3], _ =>
        have g0 := hff 0 _ rfl
        have g1 := hff 1 _ rfl
        have g2 := hff 2 _ rfl
        have g3 := hff 3 _ rfl
        have t0 : Try.prog.cellsOf 3 = 1 := by kernel_rfl
        have t1 : Try.prog.cellsOf 45 = 1 := by kernel_rfl
        simp [t0, t1] at g0 g1 g2 g3
        have e0 := hcell 0 (by omega)
        have e1 := hcell 1 (by omega)
        have e2 := hcell 2 (by omega)
        have e3 := hcell 3 (by omega)
        rw [Deep.add_add] at e0 e1 e2 e3
        obtain ⟨z0, q0, -, b0⟩ := DataW.trod_int Try.underlying3 g0
        have b0' := bounds_i64 b0
        obtain ⟨z1, q1, -, b1⟩ := DataW.trod_int Try.underlying3 g1
        have b1' := bounds_i64 b1
        obtain ⟨z2, q2, -, b2⟩ := DataW.trod_int Try.underlying3 g2
        have b2' := bounds_i64 b2
        obtain ⟨z3, q3, -, b3⟩ := DataW.trod_int Try.underlying45 g3
        have b3' := bounds_u64 b3
        simp at q0 q1 q2 q3
        subst q0 q1 q2 q3
        obtain ⟨u3, rfl⟩ : ∃ u : Nat, z3 = u := ⟨z3.toNat, by omega⟩
        exact ⟨(z0, z1, z2, u3), by simpa using e0, by simpa using e1, by simpa using e2, by simpa using e3, b0'.1, b0'.2, b1'.1, b1'.2, b2'.1, b2'.2, (by show u3 < _; omega)⟩
    have key : ∀ k, k ≤ len → ∃ l : List OpT15, l.length = k ∧ ∀ j (hj : j < l.length), W.cell? (x.add (j * 4)) = some (.int .i64 l[j].1) ∧ W.cell? (x.add (j * 4 + 1)) = some (.int .i64 l[j].2.1) ∧ W.cell? (x.add (j * 4 + 2)) = some (.int .i64 l[j].2.2.1) ∧ W.cell? (x.add (j * 4 + 3)) = some (.int .u64 (l[j].2.2.2 : Int)) ∧ -9223372036854775808 ≤ l[j].1 ∧ l[j].1 ≤ 9223372036854775807 ∧ -9223372036854775808 ≤ l[j].2.1 ∧ l[j].2.1 ≤ 9223372036854775807 ∧ -9223372036854775808 ≤ l[j].2.2.1 ∧ l[j].2.2.1 ≤ 9223372036854775807 ∧ l[j].2.2.2 < 18446744073709551616 := by
      intro k
      induction k with
      | zero => exact fun _ => ⟨[], rfl, fun j hj => by simp at hj⟩
      | succ k ih =>
        intro hk
        obtain ⟨l, h1, h2⟩ := ih (by omega)
        obtain ⟨q, hq⟩ := each k (by omega)
        refine ⟨l ++ [q], by simp [h1], fun j hj => ?_⟩
        by_cases hjl : j < l.length
        · rw [List.getElem_append_left hjl]; exact h2 j hjl
        · have : j = k := by simp at hj; omega
          subst this
          rw [List.getElem_append_right (by omega)]
          simpa [h1] using hq
    obtain ⟨l, h1, h2⟩ := key len (Nat.le_refl _)
    refine ⟨some x, len, cap, l, rfl, Nat.le_trans hl hm, h1, fun j hj => ?_⟩
    obtain ⟨c0, c1, c2, c3, hbn⟩ := h2 j hj
    obtain ⟨b, off, spot⟩ := x
    have h0 := (h2 0 (by omega)).1
    have hs : spot = none := by simpa [Addr.add] using World.cell?_spot h0
    subst hs
    rw [Addr.add_lit] at c0 c1 c2 c3
    exact ⟨b, off, rfl, cell_lt c0, c0, by rw [← Nat.add_assoc] at c1; exact c1, by rw [← Nat.add_assoc] at c2; exact c2, by rw [← Nat.add_assoc] at c3; exact c3, hbn⟩

set_option maxRecDepth 100000
namespace SD
open IN (Keeps lt_of_some)
theorem os_keep {w w1 : World} {o : Option Addr} {n cap : Nat} {l : List OpT15} (h : OS15 w o n cap l) (hb : Below w.heap.size w w1) : OS15 w1 o n cap l := by
  obtain ⟨h1, h2, h3⟩ := h
  refine ⟨h1, h2, fun j hj => ?_⟩
  obtain ⟨blk, off, e, hblk, k0, k1, k2, k3, z⟩ := h3 j hj
  have kk : ∀ {a : Nat} {u : Value}, w.cell? ⟨blk, a, none⟩ = some u → w1.cell? ⟨blk, a, none⟩ = some u := fun {a u} hc => by rw [hb.cell (p := ⟨blk, a, none⟩) hblk]; exact hc
  exact ⟨blk, off, e, Nat.lt_of_lt_of_le hblk hb.size, kk k0, kk k1, kk k2, kk k3, z⟩
theorem J.new {w0 w1 : World} {qb : Nat} (h : SW w0 qb ⟨[], []⟩ w1) : J w0.heap.size w0 qb w1.heap.size 0 ⟨[], []⟩ ⟨[], []⟩ (fun _ => False) (w1.alloc (.cells #[.slice none 0 0, .slice none 0 0] DQ)) := by
  obtain ⟨X, h1, h2⟩ := h
  have hb : Below w1.heap.size w1 (w1.alloc (.cells #[.slice none 0 0, .slice none 0 0] DQ)) := (Below.refl _ _).alloc (Nat.le_refl _) _
  have hD : DM w0.heap.size (w1.alloc (.cells #[.slice none 0 0, .slice none 0 0] DQ)) w1.heap.size (.slice none 0 0) (.slice none 0 0) [] [] := ⟨Blk.new w1 DQ [.slice none 0 0, .slice none 0 0] rfl, World.ownsRow_nil _ _ _ _, World.ownsRow_nil _ _ _ _, h2.size⟩
  refine ⟨X, _, h1.keep hb, ⟨_, _, hD, fun k => Iff.rfl⟩, fun k hx hy => ?_, fun k hk => hk.elim, Good.new 0, Good.new 0, h2.trans (bel_mono hb h2.size)⟩
  rcases hy with rfl | hy | hy
  · have := h1.lt _ hx; omega
  · cases hy
  · cases hy
set_option maxRecDepth 100000 in
set_option maxHeartbeats 4000000 in
theorem ran15 (o : Option Addr) (n cap : Nat) (l : List OpT15) (w : World) (hop : OS15 w o n cap l) :
    Calls Try.prog 5 #[.slice o n cap] w fun e w' => ∃ qb rb, e = .returned (.tuple #[ptr qb, ptr rb]) ∧ ∃ S, J w.heap.size w qb rb 100 S S (fun _ => False) w' := by
  obtain ⟨hlen, hll, hops⟩ := hop
  have hlen2 : (n : Int) ≤ 9223372036854775807 := by unfold maxLen at hlen; omega
  have cN := W_hid (SW.new w)
  replace hops := W_hid hops
  replace hll := W_hid hll
  clear hlen
  go_enter Try.func5, Try.ntmps5
  go_wp2_with fail
  refine cN.out.mono ?_
  rintro e w1 ⟨qb, rfl, h1⟩
  have hJ := W_hid (J.new h1)
  clear cN h1
  go_wp2_with fail
  go_loopw [6] (fun v wr => ∃ (j : Nat) (S : Qs), j ≤ n ∧ j ≤ 100 ∧ v = .int .i64 (j : Int) ∧ Hid (J w.heap.size w qb w1.heap.size j S S (fun _ => False) wr)) (fun v _ => n - (intOf v).toNat)
  case atStart => exact ⟨0, _, by omega, by omega, rfl, hJ⟩
  case round =>
    clear hJ
    obtain ⟨j, S, hj, hj2, rfl, hJ⟩ := hrel
    have hb := W_hid hJ.out.bel
    by_cases hlt : j < n ∧ j < 100
    · obtain ⟨hl1, hl2⟩ := hlt
      obtain ⟨blk, off, rfl, hblk, hc0, hc1, hc2, hc3, z1, z2, z3, z4, z5, z6, z7⟩ := hops.out j (by rw [hll.out]; exact hl1)
      obtain ⟨⟨kd, a, c, x⟩, hx⟩ : ∃ x, l[j]'(by rw [hll.out]; exact hl1) = x := ⟨_, rfl⟩
      rw [hx] at hc0 hc1 hc2 hc3 z1 z2 z3 z4 z5 z6 z7
      simp only at hc0 hc1 hc2 hc3 z1 z2 z3 z4 z5 z6 z7
      have kk : ∀ {a : Nat} {u : Value}, w.cell? ⟨blk, a, none⟩ = some u → wr.cell? ⟨blk, a, none⟩ = some u := fun {a u} hc => by rw [hb.out.cell (p := ⟨blk, a, none⟩) hblk]; exact hc
      have k0 := kk hc0
      have k1 := kk hc1
      have k2 := kk hc2
      have k3 := kk hc3
      have cD := W_hid (does15 w.heap.size w qb w1.heap.size j S kd a c x wr hJ.out (by omega) z4 z7)
      clear kk hc0 hc1 hc2 hc3 hx
      go_wp2_with fail
      refine cD.out.mono ?_
      rintro e w6 ⟨rfl, L', hJ6⟩
      replace hJ6 := W_hid hJ6
      go_wp2_with fail
      go_roundw
      case rel => exact ⟨j + 1, L', by omega, by omega, by go_num, hJ6⟩
      case measure => simp [intOf]; omega
    · have hex : (¬ j < n) ∨ (j < n ∧ ¬ j < 100) := by omega
      have hfin : Hid (J w.heap.size w qb w1.heap.size 100 S S (fun _ => False) wr) := W_hid (hJ.out.le hj2)
      clear hJ
      rcases hex with h1 | ⟨h1, h2⟩ <;>
      · go_wp2_with fail
        go_ret2
        exact ⟨qb, _, rfl, S, hfin.out⟩
end SD
namespace SD
open IN (Keeps lt_of_some)
open FM (one)
theorem parts_len (P : List Pr) : ∀ L : List Int, (∀ q ∈ L, levP P q < 5) → (lst P L 0).length + ((lst P L 1).length + ((lst P L 2).length + ((lst P L 3).length + (lst P L 4).length))) = L.length
  | [], _ => rfl
  | q :: L, h => by
    have ih := parts_len P L fun r hr => h r (by simp [hr])
    have hq := h q (by simp)
    have e : ∀ k, (lst P (q :: L) k).length = (if levP P q = k then 1 else 0) + (lst P L k).length := fun k => by
      unfold lst
      rw [List.filter_cons]
      by_cases hk : levP P q = k
      · simp [hk]; omega
      · simp [hk]
    rw [e 0, e 1, e 2, e 3, e 4, List.length_cons]
    have : levP P q = 0 ∨ levP P q = 1 ∨ levP P q = 2 ∨ levP P q = 3 ∨ levP P q = 4 := by omega
    rcases this with hk | hk | hk | hk | hk <;> simp [hk] <;> omega
section
variable {c : Nat} {S : Qs}
theorem lev_in (h : Good c S) {q : Int} (hq : q ∈ S.L) : levP S.P q < 5 := by
  obtain ⟨x, hx, -⟩ := (h.mem q).1 hq
  rw [levP_some hx]
  exact lev_lt (h.get_ok hx).2.1
theorem ready_len (h : Good c S) : (ready S).length = S.L.length := by
  unfold ready
  rw [List.length_append, List.length_append, List.length_append, List.length_append]
  exact parts_len S.P S.L fun q hq => lev_in h hq
theorem ready_iff (h : Good c S) {q : Int} : q ∈ ready S ↔ ∃ x, get S.P q = some x ∧ x.on = true := by
  rw [← h.mem]
  refine ⟨ready_mem, fun hq => ?_⟩
  have := lev_in h hq
  unfold ready
  simp only [List.mem_append]
  have e : levP S.P q = 0 ∨ levP S.P q = 1 ∨ levP S.P q = 2 ∨ levP S.P q = 3 ∨ levP S.P q = 4 := by omega
  rcases e with e | e | e | e | e
  · exact .inl (mem_lst.2 ⟨hq, e⟩)
  · exact .inr (.inl (mem_lst.2 ⟨hq, e⟩))
  · exact .inr (.inr (.inl (mem_lst.2 ⟨hq, e⟩)))
  · exact .inr (.inr (.inr (.inl (mem_lst.2 ⟨hq, e⟩))))
  · exact .inr (.inr (.inr (.inr (mem_lst.2 ⟨hq, e⟩))))
theorem off_one {L : List Int} (h : L.Nodup) {p : Int} (hp : p ∈ L) : (off L p).length + 1 = L.length := by
  have h1 : off L p = L.erase p := by
    rw [h.erase_eq_filter]
    unfold off
    congr 1
    funext q
    by_cases e : q = p <;> simp [e]
  have h2 := List.length_erase_of_mem hp
  have h3 := List.length_pos_of_mem hp
  rw [h1, h2]
  omega
theorem wak_of {S : Qs} {p : Int} {x : Pr} (hx : get S.P p = some x) (hon : x.on = false) : wakR S p = (0, ⟨S.P.set (low S.P p) { x with on := true }, S.L ++ [p]⟩) := by
  unfold wakR
  rw [hx]
  simp [hon]
/-- What is answered of a process that is ready. -/
theorem on_facts (h : Good c S) (hc : c ≤ 900) {p : Int} {x : Pr} (hx : get S.P p = some x) (hon : x.on = true) :
    (shrR S p).2 = 0 ∧ (loadR S p).2 = 0 ∧ ∃ S1 S2, blkR S p = (0, S1) ∧ Good c S1 ∧ wakR S1 p = (0, S2) ∧ Good (c + 1) S2 ∧ (ready S1).length + 1 = (ready S).length ∧ (ready S2).length = (ready S).length := by
  have hp : p ∈ S.L := (h.mem p).2 ⟨x, hx, hon⟩
  have hi := mem_rpid h hx hon
  have hne : wl S.P ≠ [] := by
    intro e
    have h1 : (wl S.P).length = (rpid S.P).length := by rw [wl_len, rpid_len]
    rw [e] at h1
    simp at h1
    omega
  have hok : okW (wl S.P) = true := okW_of hne (by rw [wl_len]; have := rl_len S.P; have := h.len; omega) (wl_range h.nice)
  have hb : blkR S p = (0, ⟨S.P.set (low S.P p) { x with on := false }, off S.L p⟩) := by unfold blkR; rw [hx]; simp [hon]
  have hG1 := good_blk h hx
  have hx1 : get (S.P.set (low S.P p) { x with on := false }) p = some { x with on := false } := by
    rw [get_set (y := { x with on := false }) h.asc hx (get_some hx).2, if_pos rfl]
  have hw := wak_of (S := ⟨S.P.set (low S.P p) { x with on := false }, off S.L p⟩) hx1 rfl
  have hG2 := good_wak hG1 hx1 rfl
  refine ⟨?_, by unfold loadR; rw [hx], _, _, hb, hG1, hw, hG2, ?_, ?_⟩
  · unfold shrR
    rw [hx]
    simp only [hon, if_true]
    unfold shareR
    rw [if_pos ⟨hok, by omega, by rw [wl_len, ← rpid_len]; omega⟩]
  · rw [ready_len h, ready_len hG1]
    exact off_one h.nd hp
  · rw [ready_len h, ready_len hG2]
    show (off S.L p ++ [p]).length = _
    rw [List.length_append]
    exact off_one h.nd hp
end
def hasB (l : List Int) (p : Int) : Bool := l.any fun q => q == p
theorem hasB_step {l : List Int} {p : Int} {k : Nat} (hk : k < l.length) : hasB (l.take (k + 1)) p = (hasB (l.take k) p || (l[k] == p)) := by
  unfold hasB
  rw [List.take_succ_eq_append_getElem hk, List.any_append]
  simp
theorem hasB_iff {l : List Int} {p : Int} : hasB l p = true ↔ p ∈ l := by
  unfold hasB
  rw [List.any_eq_true]
  constructor
  · rintro ⟨q, hq, e⟩
    rw [← eq_of_beq e]
    exact hq
  · exact fun h => ⟨p, h, by simp⟩
end SD
end Go.Proofs.Ytmikgkelmdgckaa
