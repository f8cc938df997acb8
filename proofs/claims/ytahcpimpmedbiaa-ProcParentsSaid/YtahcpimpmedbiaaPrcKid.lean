/- Contracts of package proc: children, Undo, Exit. -/
import Derived.Test.YtahcpimpmedbiaaPrcSel
import Derived.Test.YtahcpimpmedbiaaPrcGet
namespace Go.Proofs.Ytahcpimpmedbiaa
open Go.ChangeShapes Go.WideShapes Go.ChangeAt Go.RowKit Go.Maps
set_option linter.unusedVariables false
set_option linter.unusedSimpArgs false
set_option maxRecDepth 100000
namespace PC
open IS (ptr I64 Nums upd)
open IN (Keeps lt_of_some)

theorem keeps_tail {B : Nat} {T : Nat → Obj → Prop} {w w' w2 : World} (h : Keeps B T w w') (hB : B ≤ w.heap.size) (hb : Below w.heap.size w' w2) : Keeps B T w w2 :=
  ⟨hb.os.trans h.os, hb.tape.trans h.tape, hb.output.trans h.output, Nat.le_trans h.size hb.size, fun k hk => (hb.block k (by omega)).trans (h.low k hk), fun k o ho hT => (hb.block k (lt_of_some ho)).trans (h.block k o ho hT)⟩
theorem bel_mono {B C : Nat} {w w' : World} (h : Below C w w') (hB : B ≤ C) : Below B w w' := ⟨h.os, h.tape, h.output, h.size, fun k hk => h.block k (by omega)⟩
/-- A row of pointers, by places. -/
theorem row_ptr {w : World} {base e n : Nat} {v : Value} {xs : List Value} (h : w.ownsRow base e 1 v n xs) (hx : xs.length = n) : ∃ ao cap, v = .slice ao n cap ∧ n ≤ maxLen ∧ ∀ i (hi : i < n), ∃ g, ao = some ⟨g, 0, none⟩ ∧ base ≤ g ∧ g < w.heap.size ∧ n ≤ cap ∧ cap ≤ maxLen ∧ ∀ u, xs[i]? = some u → w.cell? ⟨g, i, none⟩ = some u := by
  rcases h.2 with ⟨rfl, rfl⟩ | ⟨g, cap, cur, rfl, hb, hg, h1, h2, h3, h4⟩
  · exact ⟨none, 0, rfl, Nat.zero_le _, fun i hi => by omega⟩
  · refine ⟨_, cap, rfl, by omega, fun i hi => ⟨g, rfl, hb, lt_of_some hg, h1, h2, fun u hu => ?_⟩⟩
    have := h.cells (g := g) rfl i u hu
    rw [Addr.add_lit, Nat.zero_add] at this
    exact this
section
variable {base : Nat} {w w' : World} {tb mb N : Nat} {M : Int → Option Nat} {L : List Pr} {X : Nat → Prop}
theorem children_any (h : TM base w tb mb M N (get L)) (hG : Good N L) (par child : Int) :
    Calls Try.prog 35 #[.pointer (some ⟨tb, 0, none⟩), .int .i64 par, .int .i64 child] w fun e w' => ∃ v, e = .returned v ∧ w'.ownsRow w.heap.size 62 1 v (kids L par child).length ((kids L par child).map fun x => ptr (M x.pid)) ∧ Below w.heap.size w w' := by
  obtain ⟨W, hW⟩ : ∃ W, (w.alloc (.cells #[.int .i64 par] 3)).alloc (.cells #[.int .i64 child] 3) = W := ⟨_, rfl⟩
  have hB : Below w.heap.size w W := by rw [← hW]; exact ((Below.refl _ _).alloc (Nat.le_refl _) _).alloc (by simp) _
  have hb : W.cell? ⟨w.heap.size, 0, none⟩ = some (.int .i64 par) := by rw [← hW]; exact ((Blk.new w _ [.int .i64 par] rfl).alloc _).cell (j := 0) rfl
  have hc : W.cell? ⟨w.heap.size + 1, 0, none⟩ = some (.int .i64 child) := by rw [← hW]; exact (Blk.new _ _ [.int .i64 child] (by simp)).cell (j := 0) rfl
  have hs : w.heap.size ≤ W.heap.size := hB.size
  have hcall := W_hid (sel_kids (h.keep hB) hG w.heap.size (w.heap.size + 1) par child hb hc)
  replace hB := W_hid hB
  clear hb hc h hG
  go_enter Try.func35, Try.ntmps35
  go_wp2_with (go_at_call 31; refine hcall.out.mono ?_; rintro e w1 ⟨v, rfl, hr1, hb1⟩; have hr1 := W_hid hr1; have hb1 := W_hid hb1)
  go_ret
  exact ⟨v, rfl, Own.low (by omega) hr1.out, hB.out.trans (bel_mono hb1.out hs)⟩
theorem Undo_nil (p : Int) (w : World) : Calls Try.prog 21 #[.pointer none, .int .i64 p] w fun e w' => e = .returned (.int .i64 1) ∧ w = w' := by
  go_enter Try.func21, Try.ntmps21
  go_wp2_with (go_at_call 33; refine (running_nil _ _).mono ?_; rintro e w' ⟨rfl, rfl⟩)
  go_ret
  exact ⟨rfl, rfl⟩
theorem Exit_nil (p c : Int) (w : World) : Calls Try.prog 20 #[.pointer none, .int .i64 p, .int .i64 c] w fun e w' => e = .returned (.int .i64 1) ∧ w = w' := by
  go_enter Try.func20, Try.ntmps20
  go_wp2_with (go_at_call 33; refine (running_nil _ _).mono ?_; rintro e w' ⟨rfl, rfl⟩)
  go_ret
  exact ⟨rfl, rfl⟩
theorem Nice_nil (p c : Int) (w : World) : Calls Try.prog 22 #[.pointer none, .int .i64 p, .int .i64 c] w fun e w' => e = .returned (.int .i64 1) ∧ w = w' := by
  go_enter Try.func22, Try.ntmps22
  go_wp2_with (go_at_call 33; refine (running_nil _ _).mono ?_; rintro e w' ⟨rfl, rfl⟩)
  go_ret
  exact ⟨rfl, rfl⟩
theorem run_of {L : List Pr} {p : Int} (hr : runs L p = true) : ∃ x, get L p = some x ∧ x.st = 1 := by
  unfold runs at hr
  cases e : get L p with
  | none => rw [e] at hr; cases hr
  | some x => rw [e] at hr; exact ⟨x, rfl, by simpa [isRun] using hr⟩
set_option maxRecDepth 100000 in
set_option maxHeartbeats 2000000 in
theorem Undo_any (h : TW base w tb N L X) (hG : Good N L) (p : Int) (hp : I64 p) : Calls Try.prog 21 #[.pointer (some ⟨tb, 0, none⟩), .int .i64 p] w fun e w' => e = .returned (.int .i64 (undoR L p).1) ∧ TO base w tb N (undoR L p).2 X w' := by
  have hid := W_hid (h.same (Below.refl _ _))
  have hidN : Hid (∀ w', Below w.heap.size w w' → TO base w tb N L X w') := W_hid fun _ hb => h.same hb
  obtain ⟨mb, M, hT, hX⟩ := h
  unfold undoR
  cases hr : runs L p with
  | false =>
    rw [if_pos rfl]
    have hc := running_no hT hp hr
    clear hT hX hr hG
    go_enter Try.func21, Try.ntmps21
    go_wp2_with (go_at_call 33; refine hc.mono ?_; rintro e w' ⟨rfl, rfl⟩)
    go_ret
    exact ⟨rfl, hid.out⟩
  | true =>
    rw [if_neg (by simp)]
    obtain ⟨x, hx, hst⟩ := run_of hr
    obtain ⟨g, hM⟩ := hT.some' hx
    have hc := running_yes hT hp hM hx hst
    by_cases hp1 : p = 1
    · rw [if_pos (.inl hp1)]
      subst hp1
      clear hT hX hr hG hM hx hst
      go_enter Try.func21, Try.ntmps21
      go_wp2_with (go_at_call 33; refine hc.mono ?_; rintro e w' ⟨rfl, rfl⟩)
      go_ret
      exact ⟨rfl, hid.out⟩
    · have hne : (p == 1) = false := by simp [hp1]
      have hk := children_any hT hG p 0
      by_cases hkn : kids L p 0 = []
      · rw [if_neg (by simp [hp1, hkn])]
        rw [hkn] at hk
        simp only [List.length_nil, List.map_nil] at hk
        have hend : Hid (∀ w1, Below w.heap.size w w1 → (w1.cell? ⟨tb, 0, none⟩ = some (.map (some mb)) ∧ ∃ w2, (∀ ty, (Builtin.delete_ #[56, 3] ty #[.map (some mb), .int .i64 p]).run Try.prog w1 = .ok (.tuple #[]) w2) ∧ TO base w tb N (dropL L p) X w2)) := W_hid (by
          intro w1 hb
          have hT1 := hT.keep hb
          refine ⟨hT1.box.cell (j := 0) rfl, ?_⟩
          obtain ⟨w2, h1, h2, h3, h4⟩ := hT1.mp.del p hp 0
          obtain ⟨k1, k2, k3⟩ := hT1.del h2 h3
          refine ⟨w2, fun ty => ?_, TX tb mb (upd M p none), ⟨mb, _, k1.congr fun q => (get_drop hG.asc p q).symm, fun k => Iff.rfl⟩, ?_, fun k hk => .inl ((hX k).2 (k3 k hk))⟩
          · rw [← h1]; rfl
          · exact (Keeps.new hb hT.base_le).trans (keeps_iff k2 fun k hk => (hX k).2 hk))
        replace hk := W_hid hk
        clear hT hX hr hM hx hst hkn hG
        go_enter Try.func21, Try.ntmps21
        go_wp2_with (first
          | (go_at_call 33; refine hc.mono ?_; rintro e w' ⟨rfl, rfl⟩)
          | (go_at_call 35; refine hk.out.mono ?_; rintro e w1 ⟨v, rfl, hr1, hb1⟩; obtain ⟨av, cv, rfl⟩ := Own.form hr1; obtain ⟨c0, w2, hdel, hto⟩ := hend.out w1 hb1; have hto := W_hid hto; clear hr1 hb1))
        go_ret
        exact ⟨rfl, hto.out⟩
      · rw [if_pos (.inr hkn)]
        have hpos : 0 < (kids L p 0).length := List.length_pos_iff.2 hkn
        obtain ⟨n, hn⟩ : ∃ n, (kids L p 0).length = n := ⟨_, rfl⟩
        rw [hn] at hk hpos
        have hgt : decide ((0 : Int) < (n : Int)) = true := by simp; omega
        replace hk := W_hid hk
        clear hT hX hr hM hx hst hkn hG hn
        go_enter Try.func21, Try.ntmps21
        go_wp2_with (first
          | (go_at_call 33; refine hc.mono ?_; rintro e w' ⟨rfl, rfl⟩)
          | (go_at_call 35; refine hk.out.mono ?_; rintro e w1 ⟨v, rfl, hr1, hb1⟩; obtain ⟨av, cv, rfl⟩ := Own.form hr1; have hb1 := W_hid hb1; clear hr1))
        go_ret
        exact ⟨rfl, hidN.out _ hb1.out⟩

/-- Some children have another parent. -/
def Sx (L : List Pr) (ks : List Pr) (q : Int) : Option Pr := (get L q).map fun x => if ks.any (hasP x.pid) then { x with par := 1 } else x
theorem Sx_nil (L : List Pr) (q : Int) : Sx L [] q = get L q := by
  unfold Sx; cases get L q <;> simp
theorem Sx_all {L : List Pr} (ha : Asc L) (p q : Int) : Sx L (kids L p 0) q = (get L q).map (setPar p) := by
  unfold Sx
  cases e : get L q with
  | none => rfl
  | some x =>
    obtain ⟨h1, h2⟩ := get_some e
    simp only [Option.map_some, Option.some.injEq]
    unfold setPar
    have : ((kids L p 0).any (hasP x.pid) = true) ↔ x.par = p := by
      rw [List.any_eq_true]
      constructor
      · rintro ⟨y, hy, hxy⟩
        obtain ⟨h3, h4⟩ := List.mem_filter.1 hy
        have : y = x := asc_inj ha h3 h1 (by simpa [hasP] using hxy)
        subst this
        simpa [kid] using h4
      · intro hpar
        exact ⟨x, List.mem_filter.2 ⟨h1, by simp [kid, hpar]⟩, by simp [hasP]⟩
    by_cases hpar : x.par = p
    · rw [if_pos (this.2 hpar), if_pos hpar]
    · rw [if_neg (fun h => hpar (this.1 h)), if_neg hpar]
theorem Sx_step {L ks : List Pr} (ha : Asc L) {y : Pr} (hy : y ∈ L) (hn : ∀ z ∈ ks, z.pid ≠ y.pid) : Sx L ks y.pid = some y ∧ ∀ q, Sx L (ks ++ [y]) q = updS (Sx L ks) y.pid (some { y with par := 1 }) q := by
  have hg := asc_get ha hy
  refine ⟨?_, fun q => ?_⟩
  · unfold Sx
    rw [hg]
    have : ks.any (hasP y.pid) = false := by
      rw [List.any_eq_false]
      intro z hz
      simpa [hasP] using hn z hz
    rw [Option.map_some, if_neg (by rw [this]; simp)]
  · unfold updS
    by_cases e : q = y.pid
    · rw [if_pos e, e]
      unfold Sx
      rw [hg]
      have : (ks ++ [y]).any (hasP y.pid) = true := by simp [hasP]
      rw [Option.map_some, if_pos this]
    · rw [if_neg e]
      unfold Sx
      cases hq : get L q with
      | none => rfl
      | some x =>
        have hx := (get_some hq).2
        have : (ks ++ [y]).any (hasP x.pid) = ks.any (hasP x.pid) := by
          rw [List.any_append]
          have : (hasP x.pid y) = false := by simp [hasP]; rw [hx]; exact fun h => e h.symm
          simp [this]
        rw [Option.map_some, Option.map_some, this]
theorem get_exit {L : List Pr} (ha : Asc L) {p c : Int} {x : Pr} (hx : get L p = some x) (q : Int) : get (exitL L p c) q = updS (fun r => (get L r).map (setPar p)) p (some { setPar p x with st := 2, code := c }) q := by
  unfold exitL
  rw [get_map (exP_pid p c)]
  unfold updS
  by_cases e : q = p
  · rw [if_pos e, e, hx]
    have h1 := (get_some hx).2
    rw [Option.map_some, ← exP_comm]
    have h2 : (setPar p x).pid = p := by rw [setPar_pid, h1]
    unfold setEnd
    rw [if_pos h2]
  · rw [if_neg e]
    show _ = Option.map (setPar p) (get L q)
    cases hq : get L q with
    | none => rfl
    | some y =>
      have h1 := (get_some hq).2
      simp only [Option.map_some, Option.some.injEq]
      rw [← exP_comm]
      unfold setEnd
      rw [if_neg (by rw [setPar_pid, h1]; exact e)]
end
end PC
end Go.Proofs.Ytahcpimpmedbiaa
