/- Contracts of the document's Make, All. -/
import Derived.Test.YtmnmheocmcmpmaaGreatZB05
import Derived.Test.YtmnmheocmcmpmaaGreatZB02
import Derived.Test.YtmnmheocmcmpmaaGreatZB04
import Derived.Test.YtmnmheocmcmpmaaGreatZB03
import Derived.Deep.RegionLaw
import Derived.Deep.MidRow
import Derived.Deep.RegionHeld3
import Derived.OrdersHeld

namespace Go.Proofs.YtmnmheocmcmpmaaGreat
open Go.ChangeShapes Go.WideShapes Go.ChangeAt Go.RowKit
set_option linter.unusedVariables false
set_option linter.unusedSimpArgs false
namespace RN
open IN (Keeps)
open NT (Dr Ds er nu findR)
section
variable {base : Nat} {w w' : World} {rt rg : Nat}
def ovA (D : Ds) (n m : Int) : Int := match D m with
  | some dm => if D n = none then 14 else if dm.l ≠ [] then 15 else 0
  | none => if D n ≠ none then 13 else 0
set_option maxRecDepth 100000 in
set_option maxHeartbeats 8000000 in
theorem rover_any (n m : Int) {l : List DD} (w : World) (h : DT base w rt rg l) :
    Calls Tryz.prog 135 #[.pointer (some ⟨rt, 0, none⟩), .int .i64 n, .int .i64 m] w fun e w' => e = .returned (.int .i64 (ovA (toD l) n m)) ∧ Below w.heap.size w w' := by
  have cn := dir_t n h
  have cm := dir_t m h
  unfold ovA
  cases hm : toD l m with
  | none =>
    rw [dir_none hm] at cm
    simp only
    cases hn : toD l n with
    | none =>
      rw [dir_none hn] at cn
      rw [if_neg (by simp)]
      clear h hm hn
      replace cn := W_hid cn
      replace cm := W_hid cm
      go_enter Tryz.func135, Tryz.ntmps135
      go_wp2_with fail
      refine cn.out.mono ?_
      rintro e w1 ⟨rfl, rfl⟩
      go_wp2_with fail
      refine cm.out.mono ?_
      rintro e w1 ⟨rfl, rfl⟩
      go_wp2_with fail
      go_ret
      exact ⟨rfl, Below.refl _ _⟩
    | some dn =>
      obtain ⟨h3, h4, -, -⟩ := dir_some hn
      rw [h4] at cn
      rw [if_pos (by simp)]
      generalize ix l n = K at *
      clear h hm hn h3 h4
      replace cn := W_hid cn
      replace cm := W_hid cm
      go_enter Tryz.func135, Tryz.ntmps135
      go_wp2_with fail
      refine cn.out.mono ?_
      rintro e w1 ⟨rfl, rfl⟩
      go_wp2_with fail
      refine cm.out.mono ?_
      rintro e w1 ⟨rfl, rfl⟩
      go_wp2_with fail
      go_ret
      exact ⟨rfl, Below.refl _ _⟩
  | some dm =>
    obtain ⟨h3, h4, -, h5⟩ := dir_some hm
    rw [h4] at cm
    simp only
    cases hn : toD l n with
    | none =>
      rw [dir_none hn] at cn
      rw [if_pos rfl]
      generalize ix l m = K at *
      clear h hm hn h5 h3 h4
      replace cn := W_hid cn
      replace cm := W_hid cm
      go_enter Tryz.func135, Tryz.ntmps135
      go_wp2_with fail
      refine cn.out.mono ?_
      rintro e w1 ⟨rfl, rfl⟩
      go_wp2_with fail
      refine cm.out.mono ?_
      rintro e w1 ⟨rfl, rfl⟩
      go_wp2_with fail
      go_ret
      exact ⟨rfl, Below.refl _ _⟩
    | some dn =>
      obtain ⟨h6, h7, -, -⟩ := dir_some hn
      rw [h7] at cn
      rw [if_neg (by simp)]
      obtain ⟨g, cap, v, e1, hcap, e2, hNE⟩ := h.at_l h3
      obtain ⟨ao, cc, rfl⟩ := hNE.form
      have hl : (dm.l ≠ []) ↔ 0 < l[ix l m].l.length := by
        rw [h5]
        unfold two
        rw [ne_eq, List.map_eq_nil_iff, List.length_pos_iff]
      generalize l[ix l m].l = nl at *
      generalize ix l m = K at *
      generalize ix l n = K2 at *
      obtain ⟨NL, hNL⟩ : ∃ NL, l.length = NL := ⟨_, rfl⟩
      rw [hNL] at e1 hcap h3
      have hK : (K : Int) < (NL : Int) := by omega
      obtain ⟨N, hN⟩ : ∃ N, nl.length = N := ⟨_, rfl⟩
      rw [hN] at e2 hl
      by_cases hz : dm.l = []
      · rw [if_neg (fun e => e hz)]
        have hN0 : N = 0 := by
          have := (not_congr hl).1 (fun e => e hz)
          omega
        subst hN0
        clear h hm hn h5 h4 h6 h7 hNE hl hN hz hNL
        replace cn := W_hid cn
        replace cm := W_hid cm
        go_enter Tryz.func135, Tryz.ntmps135
        go_wp2_with fail
        refine cn.out.mono ?_
        rintro e w1 ⟨rfl, rfl⟩
        go_wp2_with fail
        refine cm.out.mono ?_
        rintro e w1 ⟨rfl, rfl⟩
        go_wp2_with fail
        go_ret
        exact ⟨rfl, Below.refl _ _⟩
      · rw [if_pos hz]
        have hN0 : 0 < N := hl.1 hz
        have hN1 : (0 : Int) < (N : Int) := by omega
        clear h hm hn h5 h4 h6 h7 hNE hl hN hz hNL
        replace cn := W_hid cn
        replace cm := W_hid cm
        go_enter Tryz.func135, Tryz.ntmps135
        go_wp2_with fail
        refine cn.out.mono ?_
        rintro e w1 ⟨rfl, rfl⟩
        go_wp2_with fail
        refine cm.out.mono ?_
        rintro e w1 ⟨rfl, rfl⟩
        go_wp2_with fail
        go_ret
        exact ⟨rfl, Below.refl _ _⟩
end
end RN
namespace RN
open IN (Keeps)
open NT (Dr Ds er nu findR)
def px : List (ByteArray × Int × Int) → ByteArray → Nat
  | [], _ => 0
  | x :: l, k => if NT.blt x.1 k = true then px l k + 1 else 0
theorem px_le : ∀ (l : List (ByteArray × Int × Int)) (k : ByteArray), px l k ≤ l.length
  | [], _ => Nat.le_refl _
  | x :: l, k => by
    unfold px
    split
    · have := px_le l k
      rw [List.length_cons]; omega
    · omega
theorem px_lt : ∀ (l : List (ByteArray × Int × Int)) (k : ByteArray) (j : Nat) (hj : j < l.length), j < px l k → NT.blt l[j].1 k = true
  | [], k, j, hj, _ => by cases hj
  | x :: l, k, j, hj, h => by
    by_cases e : NT.blt x.1 k = true
    · have h2 : px (x :: l) k = px l k + 1 := by simp [px, e]
      cases j with
      | zero => exact e
      | succ j =>
        simp only [List.getElem_cons_succ]
        exact px_lt l k j (by rw [List.length_cons] at hj; omega) (by omega)
    · have : px (x :: l) k = 0 := by simp [px, e]
      omega
theorem px_at : ∀ (l : List (ByteArray × Int × Int)) (k : ByteArray) (h : px l k < l.length), NT.blt l[px l k].1 k = false
  | [], k, h => by cases h
  | x :: l, k, h => by
    by_cases e : NT.blt x.1 k = true
    · have h2 : px (x :: l) k = px l k + 1 := by simp [px, e]
      rw [h2, List.length_cons] at h
      simp only [h2, List.getElem_cons_succ]
      exact px_at l k (by omega)
    · have h2 : px (x :: l) k = 0 := by simp [px, e]
      simp only [h2, List.getElem_cons_zero]
      simpa using e
def putL (l : List (ByteArray × Int × Int)) (x : ByteArray × Int × Int) : List (ByteArray × Int × Int) := l.take (px l x.1) ++ [x] ++ l.drop (px l x.1)
theorem putL_two : ∀ (l : List (ByteArray × Int × Int)) (x : ByteArray × Int × Int), two (putL l x) = NT.ins x.1 x.2.1 (two l)
  | [], x => rfl
  | y :: l, x => by
    have ih := putL_two l x
    by_cases e : NT.blt y.1 x.1 = true
    · have h2 : px (y :: l) x.1 = px l x.1 + 1 := by simp [px, e]
      have h3 : putL (y :: l) x = y :: putL l x := by unfold putL; rw [h2]; simp
      rw [h3]
      show (y.1, y.2.1) :: two (putL l x) = NT.ins x.1 x.2.1 ((y.1, y.2.1) :: two l)
      rw [ih]
      simp [NT.ins, e]
    · have h2 : px (y :: l) x.1 = 0 := by simp [px, e]
      have h3 : putL (y :: l) x = x :: y :: l := by unfold putL; rw [h2]; simp
      rw [h3]
      show (x.1, x.2.1) :: (y.1, y.2.1) :: two l = NT.ins x.1 x.2.1 ((y.1, y.2.1) :: two l)
      simp [NT.ins, e]
end RN
end Go.Proofs.YtmnmheocmcmpmaaGreat

namespace Go.Proofs.YtmnmheocmcmpmaaGreat
set_option linter.unusedVariables false
set_option linter.unusedSimpArgs false
namespace NT
def ad (e : Int → Int) (j v : Int) : Int → Int := fun x => if x = j then e x + v else e x
theorem ad_at {e : Int → Int} {j v : Int} : ad e j v j = e j + v := if_pos rfl
theorem ad_ne {e : Int → Int} {j v x : Int} (h : x ≠ j) : ad e j v x = e x := if_neg h
structure TI (I c : Nat) (e : Int → Int) (S : Int → Option IN.Nd) (D : Ds) : Prop where
  root : ∃ d, D 1 = some d ∧ d.up = 1
  num : ∀ n, S n ≠ none → 1 ≤ n ∧ n ≤ (I : Int)
  kind : ∀ n, D n ≠ none ↔ ∃ x, S n = some x ∧ x.kind = 2
  one : ∀ n x, S n = some x → x.kind = 2 → x.links = 1
  links : ∀ j x, S j = some x → (0 ≤ x.opens ∧ (x.kind = 2 → x.opens = 0)) ∧ x.links = (cnt D j I : Int) + (if j = 1 then 1 else 0) + e j
  gone : ∀ j, S j = none → cnt D j I = 0 ∧ e j = 0
  ent : ∀ n d k j, D n = some d → look k d.l = some j → PM.name k = true ∧ ∀ dj, D j = some dj → dj.up = n
  up : ∀ j dj, D j = some dj → ∃ d, D dj.up = some d
  asc : ∀ n d, D n = some d → Asc d.l ∧ d.l.length ≤ c
  reach : ∀ n d, D n = some d → ∃ k, Reach D k n
section
variable {I c : Nat} {e : Int → Int} {S : Int → Option IN.Nd} {D : Ds}
theorem TI.congr (h : TI I c e S D) {e' : Int → Int} (he : ∀ j, e' j = e j) : TI I c e' S D := by
  have : e' = e := funext he
  rw [this]; exact h
theorem TI.more (h : TI I c e S D) {c' : Nat} (hc : c ≤ c') : TI I c' e S D := ⟨h.root, h.num, h.kind, h.one, h.links, h.gone, h.ent, h.up, fun n d hD => ⟨(h.asc n d hD).1, Nat.le_trans (h.asc n d hD).2 hc⟩, h.reach⟩
theorem TI.dir (h : TI I c e S D) {n : Int} {d : Dr} (hD : D n = some d) : ∃ x, S n = some x ∧ x.kind = 2 ∧ x.links = 1 ∧ 1 ≤ n ∧ n ≤ (I : Int) := by
  obtain ⟨x, hx, hk⟩ := (h.kind n).1 (by rw [hD]; simp)
  exact ⟨x, hx, hk, h.one n x hx hk, h.num n (by rw [hx]; simp)⟩
theorem TI.dirs (h : TI I c e S D) {n : Int} {d : Dr} (hD : D n = some d) : (cnt D n I : Int) + (if n = 1 then 1 else 0) + e n = 1 := by
  obtain ⟨x, hx, hk, hl, -⟩ := h.dir hD
  have := (h.links n x hx).2
  omega
theorem cl_pos {D : Ds} {n j : Int} {k : ByteArray} (h : at_ D n k = some j) : 1 ≤ cl D n j := by
  obtain ⟨d, hD, hl⟩ := at_look h
  unfold cl
  rw [hD]
  exact cntL_pos hl
theorem TI.cnt_pos (h : TI I c e S D) {n j : Int} {k : ByteArray} (hj : at_ D n k = some j) : 1 ≤ cnt D j I := by
  obtain ⟨d, hD, hl⟩ := at_look hj
  obtain ⟨-, -, -, -, h1, h2⟩ := h.dir hD
  exact Nat.le_trans (cl_pos hj) (cnt_ge h1 h2)
theorem TI.has (h : TI I c e S D) {n j : Int} {k : ByteArray} (hj : at_ D n k = some j) : S j ≠ none := fun e2 => by
  have := h.cnt_pos hj
  have := (h.gone j e2).1
  omega
theorem TI.not1 (h : TI I c e S D) (he : 0 ≤ e 1) {n j : Int} {k : ByteArray} (hj : at_ D n k = some j) : j ≠ 1 := fun e2 => by
  subst e2
  obtain ⟨d, hD, -⟩ := h.root
  have h1 := h.cnt_pos hj
  have h2 := h.dirs hD
  simp at h2
  omega
theorem cnt_ex {D : Ds} {j : Int} : ∀ {N : Nat}, 1 ≤ cnt D j N → ∃ p, 1 ≤ p ∧ p ≤ (N : Int) ∧ 1 ≤ cl D p j
  | 0, h => by cases h
  | N + 1, h => by
    unfold cnt at h
    by_cases h1 : 1 ≤ cnt D j N
    · obtain ⟨p, h2, h3, h4⟩ := cnt_ex h1
      exact ⟨p, h2, by omega, h4⟩
    · exact ⟨(N : Int) + 1, by omega, by omega, by omega⟩
theorem TI.named (h : TI I c e S D) {j : Int} (hj : 1 ≤ cnt D j I) : ∃ p k, at_ D p k = some j := by
  obtain ⟨p, -, -, h3⟩ := cnt_ex hj
  unfold cl at h3
  cases hD : D p with
  | none => rw [hD] at h3; simp at h3
  | some d =>
    rw [hD] at h3
    obtain ⟨x, hx, hx2⟩ := List.countP_pos_iff.1 h3
    refine ⟨p, x.1, ?_⟩
    unfold at_
    rw [hD]
    rw [← (of_decide_eq_true hx2 : x.2 = j)]
    exact look_asc (h.asc p d hD).1 x hx
theorem TI.up_names (h : TI I c e S D) {j : Int} {dj : Dr} (hD : D j = some dj) (h1 : j ≠ 1) (he : e j = 0) : ∃ k, at_ D dj.up k = some j := by
  have h2 := h.dirs hD
  rw [if_neg h1, he] at h2
  obtain ⟨p, k, hp⟩ := h.named (j := j) (by omega)
  obtain ⟨d, hDp, hl⟩ := at_look hp
  have := (h.ent p d k j hDp hl).2 dj hD
  exact ⟨k, by rw [this]; exact hp⟩
theorem TI.up_ne (h : TI I c e S D) {j : Int} {dj : Dr} (hD : D j = some dj) (h1 : j ≠ 1) : dj.up ≠ j := by
  obtain ⟨k, hk⟩ := h.reach j dj hD
  cases k with
  | zero => exact absurd hk h1
  | succ k => exact reach_ne hk hD
theorem cutD_at {D : Ds} {p : Int} {d : Dr} (hD : D p = some d) (k : ByteArray) : cutD D p k p = some { d with l := del k d.l } := by unfold cutD; rw [if_pos rfl, hD]; rfl
theorem cutD_ne {D : Ds} {p x : Int} (h : x ≠ p) (k : ByteArray) : cutD D p k x = D x := if_neg h
theorem TI.cut (h : TI I c e S D) {p m : Int} {k : ByteArray} (hm : at_ D p k = some m) : TI I c (ad e m 1) S (cutD D p k) := by
  obtain ⟨d, hD, hl⟩ := at_look hm
  obtain ⟨-, -, -, -, p1, p2⟩ := h.dir hD
  have hcl : ∀ j, cl D p j = cl (cutD D p k) p j + (if m = j then 1 else 0) := fun j => by
    unfold cl
    rw [cutD_at hD, hD]
    exact cntL_del (h.asc p d hD).1 hl j
  have hcnt : ∀ j, cnt D j I = cnt (cutD D p k) j I + (if m = j then 1 else 0) := fun j => by
    have h1 := cnt_turn (D := D) (D' := cutD D p k) (j := j) (p := p) (N := I) p1 p2 fun x hx => by unfold cl; rw [cutD_ne hx]
    have h2 := hcl j
    omega
  have hold : ∀ n d', cutD D p k n = some d' → ∃ d0, D n = some d0 ∧ d'.up = d0.up ∧ (d'.l = d0.l ∨ d'.l = del k d0.l) := fun n d' hd => by
    by_cases hn : n = p
    · subst hn
      rw [cutD_at hD] at hd
      cases hd
      exact ⟨d, hD, rfl, .inr rfl⟩
    · rw [cutD_ne hn] at hd
      exact ⟨d', hd, rfl, .inl rfl⟩
  have hnew : ∀ n d0, D n = some d0 → ∃ d', cutD D p k n = some d' ∧ d'.up = d0.up := fun n d0 hd => by
    by_cases hn : n = p
    · subst hn
      rw [hD] at hd
      cases hd
      exact ⟨_, cutD_at hD k, rfl⟩
    · exact ⟨d0, by rw [cutD_ne hn]; exact hd, rfl⟩
  refine ⟨?_, h.num, fun n => ?_, h.one, fun j x hx => ?_, fun j hj => ?_, fun n d' k' j hd hlk => ?_, fun j dj hd => ?_, fun n d' hd => ?_, fun n d' hd => ?_⟩
  · obtain ⟨d0, h0, h1⟩ := h.root
    obtain ⟨d', h2, h3⟩ := hnew 1 d0 h0
    exact ⟨d', h2, by rw [h3, h1]⟩
  · rw [← h.kind n]
    constructor
    · intro hn hno
      cases hd : cutD D p k n with
      | none => exact hn hd
      | some d' =>
        obtain ⟨d0, h0, -⟩ := hold n d' hd
        rw [h0] at hno; cases hno
    · intro hn hno
      obtain ⟨d0, h0⟩ := Option.ne_none_iff_exists'.1 hn
      obtain ⟨d', h2, -⟩ := hnew n d0 h0
      rw [h2] at hno; cases hno
  · obtain ⟨h1, h2⟩ := h.links j x hx
    refine ⟨h1, ?_⟩
    rw [h2, hcnt j]
    by_cases hj : m = j
    · subst hj; rw [ad_at, if_pos rfl]; omega
    · rw [ad_ne (Ne.symm hj), if_neg hj]; omega
  · have h1 := h.gone j hj
    have h2 := hcnt j
    have hne : m ≠ j := fun e2 => h.has hm (by rw [e2]; exact hj)
    rw [if_neg hne] at h2
    rw [ad_ne hne.symm]
    exact ⟨by omega, h1.2⟩
  · obtain ⟨d0, h0, h1, h2⟩ := hold n d' hd
    have hlk0 : look k' d0.l = some j := by
      rcases h2 with h2 | h2
      · rw [← h2]; exact hlk
      · rw [h2, look_del] at hlk
        split at hlk
        · cases hlk
        · exact hlk
    obtain ⟨h3, h4⟩ := h.ent n d0 k' j h0 hlk0
    refine ⟨h3, fun dj hdj => ?_⟩
    obtain ⟨dj0, h5, h6, -⟩ := hold j dj hdj
    rw [h6]
    exact h4 dj0 h5
  · obtain ⟨d0, h0, h1, -⟩ := hold j dj hd
    obtain ⟨d2, h2⟩ := h.up j d0 h0
    obtain ⟨d3, h3, -⟩ := hnew _ d2 h2
    rw [h1]
    exact ⟨d3, h3⟩
  · obtain ⟨d0, h0, h1, h2⟩ := hold n d' hd
    obtain ⟨h3, h4⟩ := h.asc n d0 h0
    rcases h2 with h2 | h2
    · rw [h2]; exact ⟨h3, h4⟩
    · rw [h2]; exact ⟨asc_del k h3, Nat.le_trans (del_len k _) h4⟩
  · obtain ⟨d0, h0, -⟩ := hold n d' hd
    obtain ⟨q, hq⟩ := h.reach n d0 h0
    exact ⟨q, reach_keep hnew hq⟩
def putD (D : Ds) (p : Int) (k : ByteArray) (n : Int) : Ds := fun x => if x = p then (D p).map (fun d => { d with l := put k n d.l }) else D x
theorem putD_at {D : Ds} {p : Int} {d : Dr} (hD : D p = some d) (k : ByteArray) (n : Int) : putD D p k n p = some { d with l := put k n d.l } := by unfold putD; rw [if_pos rfl, hD]; rfl
theorem putD_ne {D : Ds} {p x : Int} (h : x ≠ p) (k : ByteArray) (n : Int) : putD D p k n x = D x := if_neg h
theorem TI.put (h : TI I c e S D) {p n : Int} {d : Dr} {k : ByteArray} (hD : D p = some d) (hl : look k d.l = none) (hk : PM.name k = true) (hn : S n ≠ none) (hup : ∀ dn, D n = some dn → dn.up = p) : TI I (c + 1) (ad e n (-1)) S (putD D p k n) := by
  obtain ⟨-, -, -, -, p1, p2⟩ := h.dir hD
  have hcl : ∀ j, cl (putD D p k n) p j = cl D p j + (if n = j then 1 else 0) := fun j => by
    unfold cl
    rw [putD_at hD, hD]
    exact cntL_put j n hl
  have hcnt : ∀ j, cnt (putD D p k n) j I = cnt D j I + (if n = j then 1 else 0) := fun j => by
    have h1 := cnt_turn (D := D) (D' := putD D p k n) (j := j) (p := p) (N := I) p1 p2 fun x hx => by unfold cl; rw [putD_ne hx]
    have h2 := hcl j
    omega
  have hold : ∀ m d', putD D p k n m = some d' → ∃ d0, D m = some d0 ∧ d'.up = d0.up ∧ (d'.l = d0.l ∨ m = p ∧ d'.l = NT.put k n d0.l) := fun m d' hd => by
    by_cases hm : m = p
    · subst hm
      rw [putD_at hD] at hd
      cases hd
      exact ⟨d, hD, rfl, .inr ⟨rfl, rfl⟩⟩
    · rw [putD_ne hm] at hd
      exact ⟨d', hd, rfl, .inl rfl⟩
  have hnew : ∀ m d0, D m = some d0 → ∃ d', putD D p k n m = some d' ∧ d'.up = d0.up := fun m d0 hd => by
    by_cases hm : m = p
    · subst hm
      rw [hD] at hd
      cases hd
      exact ⟨_, putD_at hD k n, rfl⟩
    · exact ⟨d0, by rw [putD_ne hm]; exact hd, rfl⟩
  refine ⟨?_, h.num, fun m => ?_, h.one, fun j x hx => ?_, fun j hj => ?_, fun m d' k' j hd hlk => ?_, fun j dj hd => ?_, fun m d' hd => ?_, fun m d' hd => ?_⟩
  · obtain ⟨d0, h0, h1⟩ := h.root
    obtain ⟨d', h2, h3⟩ := hnew 1 d0 h0
    exact ⟨d', h2, by rw [h3, h1]⟩
  · rw [← h.kind m]
    constructor
    · intro hn hno
      cases hd : putD D p k n m with
      | none => exact hn hd
      | some d' =>
        obtain ⟨d0, h0, -⟩ := hold m d' hd
        rw [h0] at hno; cases hno
    · intro hn hno
      obtain ⟨d0, h0⟩ := Option.ne_none_iff_exists'.1 hn
      obtain ⟨d', h2, -⟩ := hnew m d0 h0
      rw [h2] at hno; cases hno
  · obtain ⟨h1, h2⟩ := h.links j x hx
    refine ⟨h1, ?_⟩
    rw [h2, hcnt j]
    by_cases hj : n = j
    · subst hj; rw [ad_at, if_pos rfl]; omega
    · rw [ad_ne (Ne.symm hj), if_neg hj]; omega
  · have h1 := h.gone j hj
    have h2 := hcnt j
    have hne : n ≠ j := fun e2 => hn (by rw [e2]; exact hj)
    rw [if_neg hne] at h2
    rw [ad_ne hne.symm]
    exact ⟨by omega, h1.2⟩
  · obtain ⟨d0, h0, h1, h2⟩ := hold m d' hd
    have hin : (k' = k ∧ j = n ∧ m = p) ∨ look k' d0.l = some j := by
      rcases h2 with h2 | ⟨h3, h2⟩
      · rw [← h2]; exact .inr hlk
      · rw [h2, look_put] at hlk
        split at hlk
        · rename_i hkk
          cases hlk
          exact .inl ⟨hkk, rfl, h3⟩
        · exact .inr hlk
    have hfin : PM.name k' = true ∧ ∀ dj, D j = some dj → dj.up = m := by
      rcases hin with ⟨rfl, rfl, rfl⟩ | hin
      · exact ⟨hk, hup⟩
      · exact h.ent m d0 k' j h0 hin
    refine ⟨hfin.1, fun dj hdj => ?_⟩
    obtain ⟨dj0, h5, h6, -⟩ := hold j dj hdj
    rw [h6]
    exact hfin.2 dj0 h5
  · obtain ⟨d0, h0, h1, -⟩ := hold j dj hd
    obtain ⟨d2, h2⟩ := h.up j d0 h0
    obtain ⟨d3, h3, -⟩ := hnew _ d2 h2
    rw [h1]
    exact ⟨d3, h3⟩
  · obtain ⟨d0, h0, h1, h2⟩ := hold m d' hd
    obtain ⟨h3, h4⟩ := h.asc m d0 h0
    rcases h2 with h2 | ⟨-, h2⟩
    · rw [h2]; exact ⟨h3, by omega⟩
    · rw [h2]
      have := put_len (k := k) (n := n) (l := d0.l)
      exact ⟨asc_put h3, by omega⟩
  · obtain ⟨d0, h0, -⟩ := hold m d' hd
    obtain ⟨q, hq⟩ := h.reach m d0 h0
    exact ⟨q, reach_keep hnew hq⟩
end
end NT
namespace NT
section
variable {I c : Nat} {e : Int → Int} {S : Int → Option IN.Nd} {D : Ds}
def upD (D : Ds) (n p : Int) : Ds := fun x => if x = n then (D n).map (fun d => { d with up := p }) else D x
theorem upD_at {D : Ds} {n : Int} {d : Dr} (hD : D n = some d) (p : Int) : upD D n p n = some { d with up := p } := by unfold upD; rw [if_pos rfl, hD]; rfl
theorem upD_ne {D : Ds} {n x : Int} (h : x ≠ n) (p : Int) : upD D n p x = D x := if_neg h
theorem TI.setUp (h : TI I c e S D) {n p : Int} {dn dp : Dr} {k : Nat} (hD : D n = some dn) (h1 : n ≠ 1) (h0 : cnt D n I = 0) (hp : D p = some dp) (hr : Reach D k p) (ha : n ∉ anc D k p) : TI I c e S (upD D n p) := by
  have hpn : p ≠ n := fun e2 => by
    subst e2
    cases k with
    | zero => exact h1 hr
    | succ k => exact ha (by unfold anc; simp)
  have hold : ∀ m d', upD D n p m = some d' → ∃ d0, D m = some d0 ∧ d'.l = d0.l ∧ (m ≠ n → d'.up = d0.up) ∧ (m = n → d'.up = p) := fun m d' hd => by
    by_cases hm : m = n
    · subst hm
      rw [upD_at hD] at hd
      cases hd
      exact ⟨dn, hD, rfl, fun h => absurd rfl h, fun _ => rfl⟩
    · rw [upD_ne hm] at hd
      exact ⟨d', hd, rfl, fun _ => rfl, fun h => absurd h hm⟩
  have hnew : ∀ m d0, D m = some d0 → ∃ d', upD D n p m = some d' ∧ (m ≠ n → d'.up = d0.up) := fun m d0 hd => by
    by_cases hm : m = n
    · subst hm
      exact ⟨_, upD_at hD p, fun h => absurd rfl h⟩
    · exact ⟨d0, by rw [upD_ne hm]; exact hd, fun _ => rfl⟩
  have hkp : ∀ m d, m ≠ n → D m = some d → ∃ d', upD D n p m = some d' ∧ d'.up = d.up := fun m d hm hd => by
    obtain ⟨d', h2, h3⟩ := hnew m d hd
    exact ⟨d', h2, h3 hm⟩
  have hcnt : ∀ j, cnt (upD D n p) j I = cnt D j I := fun j => cnt_same fun x _ _ => by
    unfold cl
    by_cases hx : x = n
    · subst hx; rw [upD_at hD, hD]
    · rw [upD_ne hx]
  have hrp : Reach (upD D n p) k p := reach_avoid hkp hr ha
  have hrn : Reach (upD D n p) (k + 1) n := ⟨h1, _, upD_at hD p, hrp⟩
  refine ⟨?_, h.num, fun m => ?_, h.one, fun j x hx => ?_, fun j hj => ?_, fun m d' k' j hd hlk => ?_, fun j dj hd => ?_, fun m d' hd => ?_, fun m d' hd => ?_⟩
  · obtain ⟨d0, h2, h3⟩ := h.root
    obtain ⟨d', h4, h5⟩ := hkp 1 d0 h1.symm h2
    exact ⟨d', h4, by rw [h5, h3]⟩
  · rw [← h.kind m]
    constructor
    · intro hn hno
      cases hd : upD D n p m with
      | none => exact hn hd
      | some d' =>
        obtain ⟨d0, h2, -⟩ := hold m d' hd
        rw [h2] at hno; cases hno
    · intro hn hno
      obtain ⟨d0, h2⟩ := Option.ne_none_iff_exists'.1 hn
      obtain ⟨d', h3, -⟩ := hnew m d0 h2
      rw [h3] at hno; cases hno
  · rw [hcnt j]; exact h.links j x hx
  · rw [hcnt j]; exact h.gone j hj
  · obtain ⟨d0, h2, h3, -⟩ := hold m d' hd
    rw [h3] at hlk
    obtain ⟨h4, h5⟩ := h.ent m d0 k' j h2 hlk
    refine ⟨h4, fun dj hdj => ?_⟩
    obtain ⟨dj0, h6, -, h7, -⟩ := hold j dj hdj
    have hjn : j ≠ n := fun e2 => by
      have := h.cnt_pos (n := m) (k := k') (j := j) (by unfold at_; rw [h2]; exact hlk)
      rw [e2] at this
      omega
    rw [h7 hjn]
    exact h5 dj0 h6
  · obtain ⟨d0, h2, -, h3, h4⟩ := hold j dj hd
    by_cases hj : j = n
    · rw [h4 hj]
      exact ⟨dp, by rw [upD_ne hpn]; exact hp⟩
    · rw [h3 hj]
      obtain ⟨d2, h5⟩ := h.up j d0 h2
      obtain ⟨d3, h6, -⟩ := hnew _ d2 h5
      exact ⟨d3, h6⟩
  · obtain ⟨d0, h2, h3, -⟩ := hold m d' hd
    rw [h3]
    exact h.asc m d0 h2
  · obtain ⟨d0, h2, -⟩ := hold m d' hd
    obtain ⟨q, hq⟩ := h.reach m d0 h2
    exact reach_move hkp ⟨k + 1, hrn⟩ hq
theorem ulS_some {S : Int → Option IN.Nd} {j : Int} {x : IN.Nd} (hx : S j = some x) (hl : 0 < x.links) : IN.ulS S j = IN.upd S j (if x.links = 1 ∧ x.opens = 0 then none else some { x with links := x.links - 1 }) := by
  unfold IN.ulS
  rw [hx]
  simp only
  rw [if_pos hl]
  unfold IN.gone
  rw [IN.upd_at]
  simp only
  by_cases h : x.links = 1 ∧ x.opens = 0
  · rw [if_pos ⟨by omega, h.2⟩, if_pos h, IN.upd_upd]
  · rw [if_neg (fun h2 => h ⟨by omega, h2.2⟩), if_neg h]
theorem TI.lost (h : TI I c e S D) {j : Int} (hD : D j = none) (he : e j = 1) : TI I c (ad e j (-1)) (IN.ulS S j) D := by
  have hSj : S j ≠ none := fun e2 => by have := (h.gone j e2).2; omega
  obtain ⟨x, hx⟩ := Option.ne_none_iff_exists'.1 hSj
  obtain ⟨ho, hl⟩ := h.links j x hx
  have hj1 : j ≠ 1 := fun e2 => by
    obtain ⟨d, h1, -⟩ := h.root
    rw [← e2, hD] at h1; cases h1
  rw [if_neg hj1, he] at hl
  have hk2 : x.kind ≠ 2 := fun e2 => (h.kind j).2 ⟨x, hx, e2⟩ hD
  rw [ulS_some hx (by omega)]
  have hne : ∀ n, n ≠ j → IN.upd S j (if x.links = 1 ∧ x.opens = 0 then none else some { x with links := x.links - 1 }) n = S n := fun n hn => IN.upd_ne hn
  refine ⟨h.root, fun n hn => ?_, fun n => ?_, fun n y hy hk => ?_, fun n y hy => ?_, fun n hn => ?_, h.ent, h.up, h.asc, h.reach⟩
  · by_cases e2 : n = j
    · subst e2; exact h.num n hSj
    · rw [hne n e2] at hn; exact h.num n hn
  · by_cases e2 : n = j
    · subst e2
      rw [IN.upd_at, hD]
      constructor
      · intro h2; exact absurd rfl h2
      · rintro ⟨y, hy, hk⟩
        split at hy
        · cases hy
        · cases hy; exact absurd hk hk2
    · rw [hne n e2]; exact h.kind n
  · by_cases e2 : n = j
    · subst e2
      rw [IN.upd_at] at hy
      split at hy
      · cases hy
      · cases hy; exact absurd hk hk2
    · rw [hne n e2] at hy; exact h.one n y hy hk
  · by_cases e2 : n = j
    · subst e2
      rw [IN.upd_at] at hy
      split at hy
      · cases hy
      · cases hy
        refine ⟨ho, ?_⟩
        show x.links - 1 = _
        rw [if_neg hj1, ad_at]; omega
    · rw [hne n e2] at hy
      rw [ad_ne e2]
      exact h.links n y hy
  · by_cases e2 : n = j
    · subst e2
      rw [IN.upd_at] at hn
      split at hn
      · rw [ad_at]; omega
      · cases hn
    · rw [hne n e2] at hn
      rw [ad_ne e2]
      exact h.gone n hn
theorem TI.lostDir (h : TI I c e S D) {j : Int} {dj : Dr} (hD : D j = some dj) (hl : dj.l = []) (h1 : j ≠ 1) (he : e j = 1) (hu : ∀ m d, m ≠ j → D m = some d → d.up ≠ j) : TI I c (ad e j (-1)) (IN.ulS S j) (upd D j none) := by
  obtain ⟨x, hx, hk, hxl, -⟩ := h.dir hD
  obtain ⟨ho, hll⟩ := h.links j x hx
  rw [ulS_some hx (by omega), if_pos ⟨hxl, ho.2 hk⟩]
  have h0 := h.dirs hD
  rw [if_neg h1, he] at h0
  have hcnt : ∀ n, cnt (upd D j none) n I = cnt D n I := fun n => cnt_same fun x _ _ => by
    unfold cl
    by_cases e2 : x = j
    · subst e2; rw [upd_at, hD]; simp [hl, cntL]
    · rw [upd_ne e2]
  have hold : ∀ m d, upd D j none m = some d → m ≠ j ∧ D m = some d := fun m d hd => by
    by_cases e2 : m = j
    · subst e2; rw [upd_at] at hd; cases hd
    · rw [upd_ne e2] at hd; exact ⟨e2, hd⟩
  refine ⟨?_, fun n hn => ?_, fun n => ?_, fun n y hy hk => ?_, fun n y hy => ?_, fun n hn => ?_, fun m d k n hd hlk => ?_, fun n d hd => ?_, fun n d hd => ?_, fun n d hd => ?_⟩
  · rw [upd_ne h1.symm]; exact h.root
  · by_cases e2 : n = j
    · subst e2; rw [IN.upd_at] at hn; exact absurd rfl hn
    · rw [IN.upd_ne e2] at hn; exact h.num n hn
  · by_cases e2 : n = j
    · subst e2
      rw [upd_at, IN.upd_at]
      constructor
      · intro h2; exact absurd rfl h2
      · rintro ⟨y, hy, -⟩; cases hy
    · rw [upd_ne e2, IN.upd_ne e2]; exact h.kind n
  · by_cases e2 : n = j
    · subst e2; rw [IN.upd_at] at hy; cases hy
    · rw [IN.upd_ne e2] at hy; exact h.one n y hy hk
  · by_cases e2 : n = j
    · subst e2; rw [IN.upd_at] at hy; cases hy
    · rw [IN.upd_ne e2] at hy
      rw [ad_ne e2, hcnt n]
      exact h.links n y hy
  · by_cases e2 : n = j
    · subst e2; rw [ad_at, hcnt]; omega
    · rw [IN.upd_ne e2] at hn
      rw [ad_ne e2, hcnt n]
      exact h.gone n hn
  · obtain ⟨-, h2⟩ := hold m d hd
    obtain ⟨h3, h4⟩ := h.ent m d k n h2 hlk
    exact ⟨h3, fun dn hdn => h4 dn (hold n dn hdn).2⟩
  · obtain ⟨h2, h3⟩ := hold n d hd
    obtain ⟨d2, h4⟩ := h.up n d h3
    exact ⟨d2, by rw [upd_ne (hu n d h2 h3)]; exact h4⟩
  · exact h.asc n d (hold n d hd).2
  · obtain ⟨h2, h3⟩ := hold n d hd
    obtain ⟨q, hq⟩ := h.reach n d h3
    exact ⟨q, reach_less (fun m dm hm hd => ⟨dm, by rw [upd_ne hm]; exact hd, rfl⟩) hu h2 hq⟩
theorem TI.newFile (h : TI I c e S D) {n : Int} (hn : S n = none) (h1 : 1 ≤ n) (h2 : n ≤ (I : Int)) : TI I c (ad e n 1) (IN.upd S n (some (IN.newNd 1))) D := by
  obtain ⟨g1, g2⟩ := h.gone n hn
  have hn1 : n ≠ 1 := fun e2 => by
    obtain ⟨d, h3, -⟩ := h.root
    obtain ⟨x, hx, -⟩ := h.dir h3
    rw [← e2, hn] at hx; cases hx
  have hDn : D n = none := by
    cases hD : D n with
    | none => rfl
    | some d =>
      obtain ⟨x, hx, -⟩ := h.dir hD
      rw [hn] at hx; cases hx
  refine ⟨h.root, fun m hm => ?_, fun m => ?_, fun m y hy hk => ?_, fun m y hy => ?_, fun m hm => ?_, h.ent, h.up, h.asc, h.reach⟩
  · by_cases e2 : m = n
    · subst e2; exact ⟨h1, h2⟩
    · rw [IN.upd_ne e2] at hm; exact h.num m hm
  · by_cases e2 : m = n
    · subst e2
      rw [IN.upd_at, hDn]
      constructor
      · intro h3; exact absurd rfl h3
      · rintro ⟨y, hy, hk⟩; cases hy; cases hk
    · rw [IN.upd_ne e2]; exact h.kind m
  · by_cases e2 : m = n
    · subst e2; rw [IN.upd_at] at hy; cases hy; cases hk
    · rw [IN.upd_ne e2] at hy; exact h.one m y hy hk
  · by_cases e2 : m = n
    · subst e2
      rw [IN.upd_at] at hy
      cases hy
      refine ⟨⟨Int.le_refl _, fun _ => rfl⟩, ?_⟩
      rw [ad_at, g1, g2, if_neg hn1]
      rfl
    · rw [IN.upd_ne e2] at hy
      rw [ad_ne e2]
      exact h.links m y hy
  · by_cases e2 : m = n
    · subst e2; rw [IN.upd_at] at hm; cases hm
    · rw [IN.upd_ne e2] at hm
      rw [ad_ne e2]
      exact h.gone m hm
theorem TI.newDir (h : TI I c e S D) {n p : Int} {dp : Dr} (hn : S n = none) (h1 : 1 ≤ n) (h2 : n ≤ (I : Int)) (hp : D p = some dp) : TI I c (ad e n 1) (IN.upd S n (some (IN.newNd 2))) (upd D n (some ⟨p, []⟩)) := by
  obtain ⟨g1, g2⟩ := h.gone n hn
  have hDn : D n = none := by
    cases hD : D n with
    | none => rfl
    | some d =>
      obtain ⟨x, hx, -⟩ := h.dir hD
      rw [hn] at hx; cases hx
  have hn1 : n ≠ 1 := fun e2 => by
    obtain ⟨d, h3, -⟩ := h.root
    rw [← e2, hDn] at h3; cases h3
  have hpn : p ≠ n := fun e2 => by rw [e2, hDn] at hp; cases hp
  have hcnt : ∀ j, cnt (upd D n (some ⟨p, []⟩)) j I = cnt D j I := fun j => cnt_same fun x _ _ => by
    unfold cl
    by_cases e2 : x = n
    · subst e2; rw [upd_at, hDn]; simp [cntL]
    · rw [upd_ne e2]
  have hkeep : ∀ m d, D m = some d → ∃ d', upd D n (some ⟨p, []⟩) m = some d' ∧ d'.up = d.up := fun m d hd => by
    have : m ≠ n := fun e2 => by rw [e2, hDn] at hd; cases hd
    exact ⟨d, by rw [upd_ne this]; exact hd, rfl⟩
  refine ⟨?_, fun m hm => ?_, fun m => ?_, fun m y hy hk => ?_, fun m y hy => ?_, fun m hm => ?_, fun m d k j hd hlk => ?_, fun m d hd => ?_, fun m d hd => ?_, fun m d hd => ?_⟩
  · rw [upd_ne hn1.symm]; exact h.root
  · by_cases e2 : m = n
    · subst e2; exact ⟨h1, h2⟩
    · rw [IN.upd_ne e2] at hm; exact h.num m hm
  · by_cases e2 : m = n
    · subst e2
      rw [IN.upd_at, upd_at]
      constructor
      · intro h3; exact ⟨_, rfl, rfl⟩
      · intro h3; simp
    · rw [IN.upd_ne e2, upd_ne e2]; exact h.kind m
  · by_cases e2 : m = n
    · subst e2; rw [IN.upd_at] at hy; cases hy; rfl
    · rw [IN.upd_ne e2] at hy; exact h.one m y hy hk
  · by_cases e2 : m = n
    · subst e2
      rw [IN.upd_at] at hy
      cases hy
      refine ⟨⟨Int.le_refl _, fun _ => rfl⟩, ?_⟩
      rw [ad_at, hcnt, g1, g2, if_neg hn1]
      rfl
    · rw [IN.upd_ne e2] at hy
      rw [ad_ne e2, hcnt]
      exact h.links m y hy
  · by_cases e2 : m = n
    · subst e2; rw [IN.upd_at] at hm; cases hm
    · rw [IN.upd_ne e2] at hm
      rw [ad_ne e2, hcnt]
      exact h.gone m hm
  · by_cases e2 : m = n
    · subst e2; rw [upd_at] at hd; cases hd; cases hlk
    · rw [upd_ne e2] at hd
      obtain ⟨h3, h4⟩ := h.ent m d k j hd hlk
      have hj : j ≠ n := fun e3 => by
        have := h.cnt_pos (n := m) (k := k) (j := j) (by unfold at_; rw [hd]; exact hlk)
        rw [e3] at this
        omega
      exact ⟨h3, fun dj hdj => h4 dj (by rw [upd_ne hj] at hdj; exact hdj)⟩
  · by_cases e2 : m = n
    · subst e2; rw [upd_at] at hd; cases hd
      exact ⟨dp, by rw [upd_ne hpn]; exact hp⟩
    · rw [upd_ne e2] at hd
      obtain ⟨d2, h3⟩ := h.up m d hd
      obtain ⟨d3, h4, -⟩ := hkeep _ d2 h3
      exact ⟨d3, h4⟩
  · by_cases e2 : m = n
    · subst e2; rw [upd_at] at hd; cases hd
      exact ⟨List.Pairwise.nil, Nat.zero_le _⟩
    · rw [upd_ne e2] at hd; exact h.asc m d hd
  · by_cases e2 : m = n
    · subst e2; rw [upd_at] at hd; cases hd
      obtain ⟨q, hq⟩ := h.reach p dp hp
      exact ⟨q + 1, hn1, _, upd_at D m _, reach_keep hkeep hq⟩
    · rw [upd_ne e2] at hd
      obtain ⟨q, hq⟩ := h.reach m d hd
      exact ⟨q, reach_keep hkeep hq⟩
theorem TI.linked (h : TI I c e S D) {n : Int} {x : IN.Nd} (hx : S n = some x) (hD : D n = none) : TI I c (ad e n 1) (IN.upd S n (some { x with links := x.links + 1 })) D := by
  have hk2 : x.kind ≠ 2 := fun e2 => (h.kind n).2 ⟨x, hx, e2⟩ hD
  refine ⟨h.root, fun m hm => ?_, fun m => ?_, fun m y hy hk => ?_, fun m y hy => ?_, fun m hm => ?_, h.ent, h.up, h.asc, h.reach⟩
  · by_cases e2 : m = n
    · subst e2; exact h.num m (by rw [hx]; simp)
    · rw [IN.upd_ne e2] at hm; exact h.num m hm
  · by_cases e2 : m = n
    · subst e2
      rw [IN.upd_at, hD]
      constructor
      · intro h3; exact absurd rfl h3
      · rintro ⟨y, hy, hk⟩; cases hy; exact absurd hk hk2
    · rw [IN.upd_ne e2]; exact h.kind m
  · by_cases e2 : m = n
    · subst e2; rw [IN.upd_at] at hy; cases hy; exact absurd hk hk2
    · rw [IN.upd_ne e2] at hy; exact h.one m y hy hk
  · by_cases e2 : m = n
    · subst e2
      rw [IN.upd_at] at hy
      cases hy
      obtain ⟨h3, h4⟩ := h.links m x hx
      refine ⟨h3, ?_⟩
      rw [ad_at]
      show x.links + 1 = _
      omega
    · rw [IN.upd_ne e2] at hy
      rw [ad_ne e2]
      exact h.links m y hy
  · by_cases e2 : m = n
    · subst e2; rw [IN.upd_at] at hm; cases hm
    · rw [IN.upd_ne e2] at hm
      rw [ad_ne e2]
      exact h.gone m hm
end
end NT
namespace NT
section
variable {I L c : Nat} {S : Int → Option IN.Nd} {D : Ds}
abbrev e0 : Int → Int := fun _ => 0
theorem at_none {D : Ds} {p : Int} {d : Dr} {k : ByteArray} (hD : D p = some d) (h : at_ D p k = none) : look k d.l = none := by unfold at_ at h; rw [hD] at h; exact h
theorem vac_ok {D : Ds} {kind p : Int} {s : ByteArray} (h : vacant D kind s = .ok p) : (∃ d, D p = some d) ∧ at_ D p (last (PM.pN s)) = none ∧ PM.name (last (PM.pN s)) = true := by
  obtain ⟨h1, h2⟩ := placeC_ok h
  refine ⟨place_dir2 h1, ?_⟩
  unfold vac at h2
  split at h2
  · cases h2
  · rename_i h3
    simp only [not_or, ne_eq, Decidable.not_not, Bool.not_eq_false] at h3
    exact h3
theorem mkD_file {D : Ds} {p n : Int} {k : ByteArray} : mkD D p k n 1 = putD D p k n := by
  funext m
  unfold mkD putD
  by_cases h : m = p
  · rw [if_pos h, if_pos h]
  · rw [if_neg h, if_neg h, if_neg (fun h2 => by have := h2.2; omega)]
theorem mkD_dir {D : Ds} {p n : Int} {k : ByteArray} (hne : p ≠ n) : mkD D p k n 2 = putD (upd D n (some ⟨p, []⟩)) p k n := by
  funext m
  unfold mkD putD
  by_cases h : m = p
  · rw [if_pos h, if_pos h, upd_ne hne]
  · rw [if_neg h, if_neg h]
    by_cases h2 : m = n
    · rw [if_pos ⟨h2, rfl⟩, h2, upd_at]
    · rw [if_neg (fun h3 => h2 h3.1), upd_ne h2]
theorem ad_zero (n : Int) (j : Int) : e0 j = ad (ad e0 n 1) n (-1) j := by
  unfold ad e0
  by_cases h : j = n <;> simp [h]
theorem TI.noD (h : TI I c e0 S D) {n : Int} (hn : S n = none) : D n = none := by
  cases hD : D n with
  | none => rfl
  | some d =>
    obtain ⟨x, hx, -⟩ := h.dir hD
    rw [hn] at hx; cases hx
theorem TI.mkFile (h : TI I c e0 S D) {s : ByteArray} {p n : Int} (hv : vacant D 1 s = .ok p) (hn : S n = none) (h1 : 1 ≤ n) (h2 : n ≤ (I : Int)) : TI I (c + 1) e0 (IN.upd S n (some (IN.newNd 1))) (mkD D p (last (PM.pN s)) n 1) := by
  obtain ⟨⟨d, hD⟩, h3, h4⟩ := vac_ok hv
  rw [mkD_file]
  exact ((h.newFile hn h1 h2).put hD (at_none hD h3) h4 (by rw [IN.upd_at]; simp) (fun dn hdn => by rw [h.noD hn] at hdn; cases hdn)).congr (ad_zero n)
theorem TI.mkDir (h : TI I c e0 S D) {s : ByteArray} {p n : Int} (hv : vacant D 2 s = .ok p) (hn : S n = none) (h1 : 1 ≤ n) (h2 : n ≤ (I : Int)) : TI I (c + 1) e0 (IN.upd S n (some (IN.newNd 2))) (mkD D p (last (PM.pN s)) n 2) := by
  obtain ⟨⟨d, hD⟩, h3, h4⟩ := vac_ok hv
  have hpn : p ≠ n := fun e2 => by rw [e2, h.noD hn] at hD; cases hD
  rw [mkD_dir hpn]
  have hD' : upd D n (some ⟨p, []⟩) p = some d := by rw [upd_ne hpn]; exact hD
  exact ((h.newDir hn h1 h2 hD).put hD' (at_none hD h3) h4 (by rw [IN.upd_at]; simp) (fun dn hdn => by rw [upd_at] at hdn; cases hdn; rfl)).congr (ad_zero n)
theorem TI.free (h : TI I c e0 S D) {n : Int} (hn : S n = none) : Free D n := fun m d hD => by
  refine ⟨fun e2 => ?_, fun k hk => ?_⟩
  · obtain ⟨d2, h2⟩ := h.up m d hD
    rw [e2, h.noD hn] at h2; cases h2
  · exact h.has (n := m) (k := k) (j := n) (by unfold at_; rw [hD]; exact hk) hn
theorem TI.link (h : TI I c e0 S D) {s : ByteArray} {p n : Int} (hv : vacant D 1 s = .ok p) (hD : D n = none) (hr : IN.lkR L S n = 0) : TI I (c + 1) e0 (IN.lkS L S n) (putD D p (last (PM.pN s)) n) := by
  unfold IN.lkR IN.askR at hr
  unfold IN.lkS
  cases hx : S n with
  | none => rw [hx] at hr; cases hr
  | some x =>
    rw [hx] at hr
    simp only at hr ⊢
    split at hr
    · rename_i hlt
      rw [if_pos hlt]
      obtain ⟨⟨d, hDp⟩, h3, h4⟩ := vac_ok hv
      exact ((h.linked hx hD).put hDp (at_none hDp h3) h4 (by rw [IN.upd_at]; simp) (fun dn hdn => by rw [hD] at hdn; cases hdn)).congr (ad_zero n)
    · cases hr
theorem TI.unlink (h : TI I c e0 S D) {p j : Int} {k : ByteArray} (hj : at_ D p k = some j) (hD : D j = none) : TI I c e0 (IN.ulS S j) (cutD D p k) := by
  have hn : cutD D p k j = none := by
    unfold cutD
    split
    · rename_i e2
      subst e2
      rw [hD]; rfl
    · exact hD
  exact ((h.cut hj).lost hn (by rw [ad_at]; rfl)).congr (ad_zero j)
theorem TI.noself (h : TI I c e0 S D) {p j : Int} {k : ByteArray} (hj : at_ D p k = some j) : j ≠ p := fun e2 => by
  subst e2
  obtain ⟨d, hD, hl⟩ := at_look hj
  exact h.up_ne hD (h.not1 (by simp) hj) ((h.ent j d k j hD hl).2 d hD)
theorem TI.nokid (h : TI I c e0 S D) {j : Int} {dj : Dr} (hD : D j = some dj) (hl : dj.l = []) (h1 : j ≠ 1) {m : Int} {d : Dr} (hm : D m = some d) (hmj : m ≠ j) : d.up ≠ j := fun e2 => by
  by_cases hm1 : m = 1
  · subst hm1
    obtain ⟨d1, h2, h3⟩ := h.root
    rw [hm] at h2
    cases h2
    exact h1 (e2.symm.trans h3)
  · obtain ⟨k, hk⟩ := h.up_names hm hm1 rfl
    rw [e2] at hk
    obtain ⟨d2, h2, h3⟩ := at_look hk
    rw [hD] at h2
    cases h2
    rw [hl] at h3
    cases h3
theorem TI.rmdir (h : TI I c e0 S D) {p j : Int} {k : ByteArray} {dj : Dr} (hj : at_ D p k = some j) (hD : D j = some dj) (hl : dj.l = []) : TI I c e0 (IN.ulS S j) (upd (cutD D p k) j none) := by
  have h1 := h.not1 (by simp) hj
  have hn : cutD D p k j = some dj := by rw [cutD_ne (h.noself hj)]; exact hD
  refine ((h.cut hj).lostDir hn hl h1 (by rw [ad_at]; rfl) fun m d hm hd => ?_).congr (ad_zero j)
  by_cases e2 : m = p
  · subst e2
    obtain ⟨d0, h2, -⟩ := at_look hj
    rw [cutD_at h2] at hd
    cases hd
    exact (show d0.up ≠ j from h.nokid hD hl h1 h2 hm)
  · rw [cutD_ne e2] at hd
    exact h.nokid hD hl h1 hd hm
theorem TI.alone (h : TI I c e0 S D) {E : Ds} {j : Int} (he : D = upd E j none) (hj : S j = none) : ∀ m d, E m = some d → m ≠ j → d.up ≠ j ∧ ∀ k, look k d.l ≠ some j := fun m d hd hm => by
  have : D m = some d := by rw [he, upd_ne hm]; exact hd
  exact h.free hj m d this
theorem anc_same {D D' : Ds} (h : ∀ n, (D' n).map (·.up) = (D n).map (·.up)) : ∀ (k : Nat) (n : Int), anc D' k n = anc D k n
  | 0, n => rfl
  | k + 1, n => by
    unfold anc
    have h1 := h n
    cases e1 : D n with
    | none => rw [e1] at h1; rw [Option.map_eq_none_iff.1 h1]
    | some d =>
      rw [e1] at h1
      obtain ⟨d', h2, h3⟩ := Option.map_eq_some_iff.1 h1
      rw [h2]
      simp only
      rw [h3, anc_same h k d.up]
theorem cutD_up (D : Ds) (p : Int) (k : ByteArray) (n : Int) : (cutD D p k n).map (·.up) = (D n).map (·.up) := by
  unfold cutD
  split
  · rename_i e2
    subst e2
    rw [Option.map_map]; rfl
  · rfl
theorem cutD_reach {D : Ds} {p : Int} {k : ByteArray} {q : Nat} {n : Int} (h : Reach D q n) : Reach (cutD D p k) q n := reach_keep (fun m d hd => by
  have := cutD_up D p k m
  rw [hd] at this
  obtain ⟨d', h2, h3⟩ := Option.map_eq_some_iff.1 this
  exact ⟨d', h2, h3⟩) h
theorem cut_put (D : Ds) (p : Int) (k : ByteArray) (n : Int) : putD (cutD D p k) p k n = putD D p k n := by
  funext x
  unfold putD cutD
  by_cases h : x = p
  · subst h
    rw [if_pos rfl, if_pos rfl, if_pos rfl, Option.map_map]
    congr 1
    funext d
    simp only [Function.comp, put]
    congr 2
    unfold del
    rw [List.filter_filter]
    congr 1
    funext y
    simp
  · rw [if_neg h, if_neg h, if_neg h]
theorem movD_eq {D : Ds} {pf pt n : Int} {kf kt : ByteArray} (hn : n ≠ pt) : movD D pf kf pt kt n = putD (upD (cutD D pf kf) n pt) pt kt n := by
  funext x
  unfold movD mov2 mov1 putD upD cutD
  by_cases h : x = n
  · subst h
    rw [if_pos rfl, if_neg hn, if_neg hn, if_pos rfl]
  · rw [if_neg h]
    by_cases h2 : x = pt
    · rw [if_pos h2, if_pos h2, if_neg (Ne.symm hn)]
    · rw [if_neg h2, if_neg h2, if_neg h]
theorem upD_none {D : Ds} {n p : Int} (h : D n = none) : upD D n p = D := by
  funext x
  unfold upD
  split
  · rename_i e2
    subst e2
    rw [h]; rfl
  · rfl
theorem cut_up_comm (D : Ds) (p n q : Int) (k : ByteArray) (h : n ≠ p) : cutD (upD D n q) p k = upD (cutD D p k) n q := by
  funext x
  unfold cutD upD
  by_cases h1 : x = p
  · subst h1
    simp [Ne.symm h]
  · by_cases h2 : x = n
    · subst h2; simp [h]
    · simp [h1, h2]
theorem cutD_none {D : Ds} {p m : Int} {k : ByteArray} : cutD D p k m = none ↔ D m = none := by
  unfold cutD
  split
  · rename_i e2
    subst e2
    rw [Option.map_eq_none_iff]
  · rfl
theorem at_cut {D : Ds} {p q : Int} {k k' : ByteArray} : at_ (cutD D p k) q k' = if q = p ∧ k' = k then none else at_ D q k' := by
  unfold at_
  by_cases h : q = p
  · subst h
    cases hD : D q with
    | none => rw [cutD_none.2 hD]; simp
    | some d =>
      rw [cutD_at hD]
      simp only [look_del]
      by_cases h2 : k' = k <;> simp [h2]
  · rw [cutD_ne h, if_neg (fun h2 => h h2.1)]
theorem at_dir {D : Ds} {p : Int} {k : ByteArray} {x : Int} (h : at_ D p k = some x) : D p ≠ none := by
  obtain ⟨d, hD, -⟩ := at_look h
  rw [hD]; simp
theorem cnt_cut (h : TI I c e0 S D) {p j : Int} {k : ByteArray} {dj : Dr} (hj : at_ D p k = some j) (hD : D j = some dj) : cnt (cutD D p k) j I = 0 := by
  have h1 := h.dirs hD
  have h2 := h.not1 (by simp) hj
  rw [if_neg h2] at h1
  obtain ⟨dj', hD'⟩ := Option.ne_none_iff_exists'.1 (fun e2 => (show D j ≠ none by rw [hD]; simp) (cutD_none.1 e2) : cutD D p k j ≠ none)
  have h3 := (h.cut hj).dirs hD'
  rw [if_neg h2, ad_at] at h3
  simp only [e0] at h1 h3
  omega
theorem TI.movFile (h : TI I c e0 S D) {pf pt n : Int} {kf kt : ByteArray} {dpt : Dr} (hn : at_ D pf kf = some n) (hDn : D n = none) (hpt : D pt = some dpt) (hm : at_ D pt kt = none) (hk : PM.name kt = true) : TI I (c + 1) e0 S (movD D pf kf pt kt n) := by
  have hne : n ≠ pt := fun e2 => by rw [e2, hpt] at hDn; cases hDn
  rw [movD_eq hne, upD_none (cutD_none.2 hDn)]
  obtain ⟨d', hd'⟩ := Option.ne_none_iff_exists'.1 (fun e2 => (show D pt ≠ none by rw [hpt]; simp) (cutD_none.1 e2) : cutD D pf kf pt ≠ none)
  refine ((h.cut hn).put hd' (at_none hd' (by rw [at_cut]; split <;> first | rfl | exact hm)) hk (h.has hn) (fun dn hdn => ?_)).congr (ad_zero n)
  rw [cutD_none.2 hDn] at hdn; cases hdn
theorem TI.movFileOver (h : TI I c e0 S D) {pf pt n m : Int} {kf kt : ByteArray} {dpt : Dr} (hn : at_ D pf kf = some n) (hDn : D n = none) (hpt : D pt = some dpt) (hm : at_ D pt kt = some m) (hDm : D m = none) (hmn : m ≠ n) (hk : PM.name kt = true) : TI I (c + 1) e0 (IN.ulS S m) (movD D pf kf pt kt n) := by
  have hne : n ≠ pt := fun e2 => by rw [e2, hpt] at hDn; cases hDn
  rw [movD_eq hne, upD_none (cutD_none.2 hDn), ← cut_put]
  have hdiff : ¬ (pt = pf ∧ kt = kf) := fun e2 => by rw [e2.1, e2.2, hn] at hm; cases hm; exact hmn rfl
  have hm2 : at_ (cutD D pf kf) pt kt = some m := by rw [at_cut, if_neg hdiff]; exact hm
  have h2 := (h.cut hn).cut hm2
  have hDm2 : cutD (cutD D pf kf) pt kt m = none := cutD_none.2 (cutD_none.2 hDm)
  have h3 := h2.lost hDm2 (by rw [ad_at, ad_ne hmn]; rfl)
  obtain ⟨d', hd'⟩ := Option.ne_none_iff_exists'.1 (fun e2 => (show D pt ≠ none by rw [hpt]; simp) (cutD_none.1 (cutD_none.1 e2)) : cutD (cutD D pf kf) pt kt pt ≠ none)
  have hSn : IN.ulS S m n ≠ none := fun e2 => by
    have := (h3.gone n e2).2
    rw [ad_ne hmn.symm, ad_ne hmn.symm, ad_at] at this
    simp [e0] at this
  refine (h3.put hd' (at_none hd' (by rw [at_cut, if_pos ⟨rfl, rfl⟩])) hk hSn (fun dn hdn => ?_)).congr fun j => ?_
  · rw [cutD_none.2 (cutD_none.2 hDn)] at hdn; cases hdn
  · unfold ad e0
    by_cases h4 : j = n
    · subst h4; simp [hmn.symm]
    · by_cases h5 : j = m
      · subst h5; simp [h4]
      · simp [h4, h5]
theorem TI.movDir (h : TI I c e0 S D) {pf pt n : Int} {kf kt : ByteArray} {dn dpt : Dr} {q : Nat} (hn : at_ D pf kf = some n) (hDn : D n = some dn) (hpt : D pt = some dpt) (hm : at_ D pt kt = none) (hk : PM.name kt = true) (hr : Reach D q pt) (ha : n ∉ anc D q pt) : TI I (c + 1) e0 S (movD D pf kf pt kt n) := by
  have hne : n ≠ pt := fun e2 => by
    subst e2
    cases q with
    | zero => exact h.not1 (by simp) hn hr
    | succ q => exact ha (by unfold anc; simp)
  rw [movD_eq hne]
  obtain ⟨d', hd'⟩ := Option.ne_none_iff_exists'.1 (fun e2 => (show D pt ≠ none by rw [hpt]; simp) (cutD_none.1 e2) : cutD D pf kf pt ≠ none)
  obtain ⟨dn', hdn'⟩ := Option.ne_none_iff_exists'.1 (fun e2 => (show D n ≠ none by rw [hDn]; simp) (cutD_none.1 e2) : cutD D pf kf n ≠ none)
  have h2 := (h.cut hn).setUp hdn' (h.not1 (by simp) hn) (cnt_cut h hn hDn) hd' (cutD_reach hr) (by rw [anc_same (cutD_up D pf kf)]; exact ha)
  have hd2 : upD (cutD D pf kf) n pt pt = some d' := by rw [upD_ne (Ne.symm hne)]; exact hd'
  refine (h2.put hd2 (at_none hd2 ?_) hk (h.has hn) (fun dx hdx => ?_)).congr (ad_zero n)
  · have : at_ (upD (cutD D pf kf) n pt) pt kt = at_ (cutD D pf kf) pt kt := by unfold at_; rw [hd2, hd']
    rw [this, at_cut]
    split <;> first | rfl | exact hm
  · rw [upD_at hdn'] at hdx
    cases hdx
    rfl
theorem TI.movDirOver (h : TI I c e0 S D) {pf pt n m : Int} {kf kt : ByteArray} {dn dpt dm : Dr} {q : Nat} (hn : at_ D pf kf = some n) (hDn : D n = some dn) (hpt : D pt = some dpt) (hm : at_ D pt kt = some m) (hDm : D m = some dm) (hdm : dm.l = []) (hmn : m ≠ n) (hk : PM.name kt = true) (hr : Reach D q pt) (ha : n ∉ anc D q pt) : TI I (c + 1) e0 (IN.ulS S m) (upd (movD D pf kf pt kt n) m none) := by
  have hne : n ≠ pt := fun e2 => by
    subst e2
    cases q with
    | zero => exact h.not1 (by simp) hn hr
    | succ q => exact ha (by unfold anc; simp)
  have hm1 := h.not1 (by simp) hm
  have hmpt : m ≠ pt := h.noself hm
  have hmpf : m ≠ pf := fun e2 => by
    obtain ⟨d, h1, h2⟩ := at_look hn
    rw [← e2, hDm] at h1
    cases h1
    rw [hdm] at h2; cases h2
  have hdiff : ¬ (pt = pf ∧ kt = kf) := fun e2 => by rw [e2.1, e2.2, hn] at hm; cases hm; exact hmn rfl
  have hm2 : at_ (cutD D pf kf) pt kt = some m := by rw [at_cut, if_neg hdiff]; exact hm
  have h2 := (h.cut hn).cut hm2
  obtain ⟨d', hd'⟩ := Option.ne_none_iff_exists'.1 (fun e2 => (show D pt ≠ none by rw [hpt]; simp) (cutD_none.1 (cutD_none.1 e2)) : cutD (cutD D pf kf) pt kt pt ≠ none)
  obtain ⟨dn', hdn'⟩ := Option.ne_none_iff_exists'.1 (fun e2 => (show D n ≠ none by rw [hDn]; simp) (cutD_none.1 (cutD_none.1 e2)) : cutD (cutD D pf kf) pt kt n ≠ none)
  have hDm2 : cutD (cutD D pf kf) pt kt m = some dm := by rw [cutD_ne hmpt, cutD_ne hmpf]; exact hDm
  have hcn : cnt (cutD (cutD D pf kf) pt kt) n I = 0 := by
    have h3 := h2.dirs hdn'
    rw [if_neg (h.not1 (by simp) hn), ad_ne hmn.symm, ad_at] at h3
    simp only [e0] at h3
    omega
  have h3 := h2.setUp hdn' (h.not1 (by simp) hn) hcn hd' (cutD_reach (cutD_reach hr)) (by rw [anc_same (cutD_up _ pt kt), anc_same (cutD_up D pf kf)]; exact ha)
  have hDm3 : upD (cutD (cutD D pf kf) pt kt) n pt m = some dm := by rw [upD_ne hmn]; exact hDm2
  have hold : ∀ x d, cutD (cutD D pf kf) pt kt x = some d → ∃ d0, D x = some d0 ∧ d0.up = d.up := fun x d hd => by
    have e1 := cutD_up (cutD D pf kf) pt kt x
    rw [cutD_up D pf kf x, hd] at e1
    obtain ⟨d0, h4, h5⟩ := Option.map_eq_some_iff.1 e1.symm
    exact ⟨d0, h4, h5⟩
  have h4 := h3.lostDir hDm3 hdm hm1 (by rw [ad_at, ad_ne hmn]; rfl) fun x d hx hd => by
    by_cases e2 : x = n
    · subst e2
      rw [upD_at hdn'] at hd
      cases hd
      exact Ne.symm hmpt
    · rw [upD_ne e2] at hd
      obtain ⟨d0, h5, h6⟩ := hold x d hd
      rw [← h6]
      exact h.nokid hDm hdm hm1 h5 hx
  have hd4 : upd (upD (cutD (cutD D pf kf) pt kt) n pt) m none pt = some d' := by rw [upd_ne (Ne.symm hmpt), upD_ne (Ne.symm hne)]; exact hd'
  have hfin : upd (movD D pf kf pt kt n) m none = putD (upd (upD (cutD (cutD D pf kf) pt kt) n pt) m none) pt kt n := by
    rw [movD_eq hne, ← cut_put, cut_up_comm _ _ _ _ _ hne]
    funext x
    unfold upd putD
    by_cases h5 : x = m
    · subst h5
      simp [hmpt]
    · simp [h5, Ne.symm hmpt]
  rw [hfin]
  have hSn : IN.ulS S m n ≠ none := fun e2 => by
    have := (h4.gone n e2).2
    rw [ad_ne hmn.symm, ad_ne hmn.symm, ad_at] at this
    simp [e0] at this
  refine (h4.put hd4 (at_none hd4 ?_) hk hSn (fun dx hdx => ?_)).congr fun j => ?_
  · have : at_ (upd (upD (cutD (cutD D pf kf) pt kt) n pt) m none) pt kt = at_ (cutD (cutD D pf kf) pt kt) pt kt := by unfold at_; rw [hd4, hd']
    rw [this, at_cut, if_pos ⟨rfl, rfl⟩]
  · rw [upd_ne hmn.symm, upD_at hdn'] at hdx
    cases hdx
    rfl
  · unfold ad e0
    by_cases hj1 : j = n
    · subst hj1; simp [hmn.symm]
    · by_cases hj2 : j = m
      · subst hj2; simp [hj1]
      · simp [hj1, hj2]
end
end NT
end Go.Proofs.YtmnmheocmcmpmaaGreat

namespace Go.Proofs.YtmnmheocmcmpmaaGreat
open Go.ChangeShapes Go.WideShapes Go.ChangeAt Go.RowKit Go.Maps
set_option linter.unusedVariables false
set_option linter.unusedSimpArgs false
namespace IN
set_option maxRecDepth 100000 in
theorem nil_make (n : Int) (w : World) :
    Calls Tryz.prog 68 #[.int .i64 n, .slice (some ⟨w.heap.size, 0, none⟩) 3 3] (w.alloc (.cells #[.func (.func 69) #[.pointer none] #[], .func (.func 154) #[] #[], .func (.func 155) #[.pointer none] #[]] 78)) fun e w' => e = .returned (.int .i64 1) ∧ Below w.heap.size w w' := by
  have hal := (Below.refl w.heap.size w).alloc (Nat.le_refl _) (.cells #[.func (.func 69) #[.pointer none] #[], .func (.func 154) #[] #[], .func (.func 155) #[.pointer none] #[]] 78)
  refine (first_make (.pointer none) _ _ _ 1 0 0 n w.heap.size _ (chk_blk w [.func (.func 69) #[.pointer none] #[], .func (.func 154) #[] #[], .func (.func 155) #[.pointer none] #[]] _ rfl)
    (fun w => by kernel_rfl) (fun w => by kernel_rfl) (fun w => by kernel_rfl) (fun W hW => made_nil _ W) (fun W h _ => absurd h (by decide)) (fun W h _ _ => absurd h (by decide))).mono ?_
  rintro e w' ⟨rfl, hb⟩
  exact ⟨rfl, hal.trans (hb.mono hal.size)⟩
set_option maxRecDepth 100000 in
set_option maxHeartbeats 2000000 in
theorem Make_nil (n : Int) (w : World) : Calls Tryz.prog 86 #[.pointer none, .int .i64 n] w fun e w' => e = .returned (.tuple #[.int .i64 0, .int .i64 1]) ∧ Below w.heap.size w w' := by
  have hmf : ∀ (fn : Fn) (first cap : Array Value) (w : World), (Instr.makeFunc fn first cap).run Tryz.prog w = .ok (.func fn first cap) w := fun _ _ _ _ => rfl
  have cA := W_hid (nil_make n w)
  go_enter Tryz.func86, Tryz.ntmps86
  go_wp2_with fail
  refine cA.out.mono ?_
  rintro e w1 ⟨rfl, b1⟩
  go_wp2_with fail
  go_ret2
  exact ⟨rfl, b1⟩
end IN
namespace NT
open IN (Keeps)
section
variable {base sg mb I L B k : Nat} {M : Int → Option Nat} {S : Int → Option IN.Nd}
def D0 : Ds := fun n => if n = 1 then some ⟨1, []⟩ else none
def nw (w3 : World) (sg g : Nat) : World := (((w3.alloc (.cells #[.int .i64 1, .pointer (some ⟨g, 0, none⟩)] 141)).setCell ⟨g, 0, none⟩ (.int .i64 1)).setCell ⟨g, 1, none⟩ (.pointer (some ⟨g, 0, none⟩))).alloc (.cells #[.pointer (some ⟨sg, 0, none⟩), .int .i64 1, .pointer (some ⟨g, 0, none⟩)] 155)
theorem new_tree {w2 w3 : World} {g m : Nat} {S : Int → Option IN.Nd} (hp : ∃ M', IN.PS base w2 sg mb M' I L B k S) (hlow : base ≤ w2.heap.size) (hg : w2.heap.size ≤ g) (hm : w2.heap.size ≤ m) (hgm : g ≠ m) (hb : Blk w3 g 163 [.int .i64 0, .pointer none, .map (some m)]) (hM : NS.MB w3 m (fun _ => none)) (b3 : Below w2.heap.size w2 w3) :
    (∃ M', IN.PS base (nw w3 sg g) sg mb M' I L B k S) ∧ TM base (nw w3 sg g) (w3.heap.size + 1) sg mb (fun n => if n = 1 then some (g, m) else none) D0 ∧ Below w2.heap.size w2 (nw w3 sg g) := by
  obtain ⟨M', hp⟩ := hp
  have hsz : w2.heap.size ≤ w3.heap.size := b3.size
  have hmb := hp.pm.mp.lt
  have bA : Below w2.heap.size w2 (w3.alloc (.cells #[.int .i64 1, .pointer (some ⟨g, 0, none⟩)] 141)) := b3.alloc hsz _
  have bB := (bA.setCell (p := ⟨g, 0, none⟩) hg (.int .i64 1)).setCell (p := ⟨g, 1, none⟩) hg (.pointer (some ⟨g, 0, none⟩))
  have bC : Below w2.heap.size w2 (nw w3 sg g) := bB.alloc (by simp; omega) _
  have hb4 : Blk (nw w3 sg g) g 163 [.int .i64 1, .pointer (some ⟨g, 0, none⟩), .map (some m)] := (((hb.alloc _).set 0 (.int .i64 1)).set 1 (.pointer (some ⟨g, 0, none⟩))).alloc _
  have hM4 : NS.MB (nw w3 sg g) m (fun _ => none) := (((hM.alloc _).far (p := ⟨g, 0, none⟩) hgm.symm (.int .i64 1)).far (p := ⟨g, 1, none⟩) hgm.symm (.pointer (some ⟨g, 0, none⟩))).alloc _
  have hbox : Blk (nw w3 sg g) (w3.heap.size + 1) 155 [.pointer (some ⟨sg, 0, none⟩), .int .i64 1, .pointer (some ⟨g, 0, none⟩)] := Blk.new _ _ _ (by simp)
  have hpA : pa (fun n => if n = 1 then some (g, m) else none) 1 = some g := by simp [pa]
  refine ⟨⟨M', hp.keep bC⟩, ⟨?_, fun n => ?_, ?_, fun n g' m' d' hA' hD' => ?_, fun n n' g1 m1 g2 m2 h1 h2 e => ?_, by omega, fun n g1 m1 h1 => ?_⟩, bC⟩
  · rw [hpA]; exact hbox
  · unfold D0; split <;> simp
  · simp [D0]
  · unfold D0 at hD'
    by_cases e : n = 1
    · rw [if_pos e] at hA' hD'
      cases hA'
      cases hD'
      refine ⟨?_, hM4.congr fun f => by simp [nm, look]⟩
      unfold dcl
      rw [hpA]
      exact hb4
    · rw [if_neg e] at hA'
      cases hA'
  · by_cases e1 : n = 1
    · by_cases e2 : n' = 1
      · exact absurd (e1.trans e2.symm) e
      · rw [if_neg e2] at h2; cases h2
    · rw [if_neg e1] at h1; cases h1
  · by_cases e1 : n = 1
    · rw [if_pos e1] at h1
      cases h1
      exact ⟨by omega, by omega, by omega⟩
    · rw [if_neg e1] at h1; cases h1
set_option maxRecDepth 100000 in
set_option maxHeartbeats 4000000 in
theorem New_yes (w : World) (h : IN.PS base w sg mb M I L B k (fun _ => none)) (hI : 1 ≤ I) (hL : 1 ≤ L) : Calls Tryz.prog 39 #[.pointer (some ⟨sg, 0, none⟩)] w fun e w' => ∃ tg A, e = .returned (.tuple #[.pointer (some ⟨tg, 0, none⟩), .int .i64 0]) ∧ (∃ M', IN.PS base w' sg mb M' I L B k (IN.upd (fun _ => none) 1 (some (IN.newNd 2)))) ∧ TM base w' tg sg mb A D0 ∧ Keeps base (IN.PT mb) w w' := by
  have hnil : IN.lst (fun _ => none) I = [] := by unfold IN.lst; simp [IN.ent]
  have cA := IN.All_any w h
  rw [hnil] at cA
  replace cA := W_hid cA
  have cM := W_hid (fun (w' : World) (hb : Below w.heap.size w w') => IN.Make_yes 2 1 w' (h.keep hb) (by unfold IN.mkR; simp [hnil]; omega) ⟨Nat.le_refl _, rfl, fun m h1 h2 => by omega⟩ hI hL)
  have cW := fun w => W_hid (newNode_dir 1 0 none w)
  have hlow := W_hid h.low
  clear h
  go_enter Tryz.func39, Tryz.ntmps39
  go_wp2_with fail
  refine cA.out.mono ?_
  rintro e w1 ⟨v, rfl, hown, b1⟩
  obtain ⟨ao, cap, rfl⟩ := Own.form hown
  have B1 := W_hid b1
  have cM1 := W_hid (cM.out _ b1)
  simp only [List.length_nil] at hown ⊢
  clear b1 hown cA cM
  go_wp2_with fail
  refine cM1.out.mono ?_
  rintro e w2 ⟨rfl, hPS, hK⟩
  have hK2 := W_hid ((Keeps.new (T := IN.PT mb) B1.out hlow.out).trans hK)
  have hPS := W_hid hPS
  clear hK cM1
  go_wp2_with fail
  refine (cW _).out.mono ?_
  rintro e w3 ⟨g, m, rfl, hg, hm, hgm, hb, hM, b3⟩
  have hb2 := hb.alloc (.cells #[.int .i64 1, .pointer (some ⟨g, 0, none⟩)] 141)
  have c0 := hb2.cell (j := 0) rfl
  have c1 := hb2.cell (j := 1) rfl
  have f0 := hb2.fz
  have hn3 : Blk (((w3.alloc (.cells #[.int .i64 1, .pointer (some ⟨g, 0, none⟩)] 141)).setCell ⟨g, 0, none⟩ (.int .i64 1)).setCell ⟨g, 1, none⟩ (.pointer (some ⟨g, 0, none⟩))) w3.heap.size 141 [.int .i64 1, .pointer (some ⟨g, 0, none⟩)] :=
    (((Blk.new w3 _ _ rfl).far (p := ⟨g, 0, none⟩) (Nat.ne_of_gt hb.lt) _).far (p := ⟨g, 1, none⟩) (Nat.ne_of_gt hb.lt) _)
  have e0 := hn3.cell (j := 0) rfl
  have e1 := hn3.cell (j := 1) rfl
  have hfin := W_hid (new_tree hPS.out (Nat.le_trans hlow.out hK2.out.size) hg hm hgm hb hM b3)
  clear hb hb2 hM b3 hn3
  go_wp2_with fail
  go_ret2
  exact ⟨_, _, rfl, hfin.out.1, hfin.out.2.1, hK2.out.trans (Keeps.new hfin.out.2.2 (Nat.le_trans hlow.out hK2.out.size))⟩
end
end NT
namespace NT
open IN (Keeps)
structure TW (base tg sg mb I L B q c : Nat) (A : Int → Option (Nat × Nat)) (S : Int → Option IN.Nd) (D : Ds) (w : World) : Prop where
  tm : TM base w tg sg mb A D
  ps : ∃ M, IN.PS base w sg mb M I L B q S
  ti : TI I c e0 S D
def TP (base tg sg mb I L B q c : Nat) (A : Int → Option (Nat × Nat)) (S : Int → Option IN.Nd) (D : Ds) (w w' : World) : Prop := (∃ A', TW base tg sg mb I L B q c A' S D w') ∧ Keeps base (FT A mb) w w'
section
variable {base : Nat} {w w' : World} {tg sg mb I L B q c : Nat} {A : Int → Option (Nat × Nat)} {D : Ds} {S : Int → Option IN.Nd}
theorem TW.more (h : TW base tg sg mb I L B q c A S D w) {c' : Nat} (hc : c ≤ c') : TW base tg sg mb I L B q c' A S D w := ⟨h.tm, h.ps, h.ti.more hc⟩
theorem TW.keep (h : TW base tg sg mb I L B q c A S D w) (hb : Below w.heap.size w w') : TW base tg sg mb I L B q c A S D w' := ⟨h.tm.keep hb, by obtain ⟨M, hM⟩ := h.ps; exact ⟨M, hM.keep hb⟩, h.ti⟩
theorem TW.same (h : TW base tg sg mb I L B q c A S D w) (hb : Below w.heap.size w w') : TP base tg sg mb I L B q (c + 1) A S D w w' := ⟨⟨A, (h.keep hb).more (by omega)⟩, Keeps.new hb h.tm.low⟩
theorem TW.did (h : TW base tg sg mb I L B q c A S D w) {r : Int} {S' : Int → Option IN.Nd} {D' : Ds} {e : Ending} (hd : Did base tg sg mb I L B q A w r S' D' e w') (hti : TI I (c + 1) e0 S' D') : e = .returned (.int .i64 r) ∧ TP base tg sg mb I L B q (c + 1) A S' D' w w' := by
  obtain ⟨h1, h2, ⟨A', h3⟩, h4⟩ := hd
  exact ⟨h1, ⟨A', h3, h2, hti⟩, h4⟩
theorem TI.few (h : TI I c e0 S D) (hc : c < 65535) : ∀ n d, D n = some d → d.l.length < 65535 := fun n d hd => by have := (h.asc n d hd).2; omega
theorem TI.nodup (h : TI I c e0 S D) : ∀ n d, D n = some d → (d.l.map (·.1)).Nodup := fun n d hd => by
  unfold List.Nodup
  rw [List.pairwise_map]
  exact (h.asc n d hd).1.imp fun {a b} hab e => by rw [e, blt_irr] at hab; cases hab
theorem TI.far (h : TI I c e0 S D) : ∀ n d, D n = some d → Reach D (NT.far D n) n := fun n d hd => by
  obtain ⟨k, hk⟩ := h.reach n d hd
  rw [far_reach hk]; exact hk
theorem TI.step_in (h : TI I c e0 S D) {n m : Int} {x : ByteArray} (hs : step D n x = .ok m) : S m ≠ none := by
  unfold step at hs
  cases hD : D n with
  | none => rw [hD] at hs; cases hs
  | some d =>
    rw [hD] at hs
    simp only at hs
    split at hs
    · cases hs
      obtain ⟨y, hy, -⟩ := h.dir hD
      rw [hy]; simp
    · split at hs
      · cases hs
        obtain ⟨d2, h2⟩ := h.up n d hD
        obtain ⟨y, hy, -⟩ := h.dir h2
        rw [hy]; simp
      · cases hl : look x d.l with
        | none => rw [hl] at hs; cases hs
        | some j =>
          rw [hl] at hs
          cases hs
          exact h.has (n := n) (k := x) (by unfold at_; rw [hD]; exact hl)
theorem TI.goes_in (h : TI I c e0 S D) : ∀ {l : List ByteArray} {n m : Int}, S n ≠ none → goes D n l = .ok m → S m ≠ none
  | [], n, m, hn, hg => by cases hg; exact hn
  | x :: l, n, m, hn, hg => by
    unfold goes at hg
    split at hg
    · cases hg
    · rename_i m2 h2
      exact h.goes_in (h.step_in h2) hg
theorem TI.find_in (h : TI I c e0 S D) {l : List ByteArray} {d : Bool} {n : Int} (hf : find D l d = .ok n) : S n ≠ none := by
  unfold find at hf
  split at hf
  · cases hf
  · rename_i m hg
    split at hf
    · cases hf
    · cases hf
      obtain ⟨d1, h1, -⟩ := h.root
      obtain ⟨x, hx, -⟩ := h.dir h1
      exact h.goes_in (by rw [hx]; simp) hg
theorem TI.i64 (h : TI I c e0 S D) (hI : I ≤ 4096) {n : Int} (hn : S n ≠ none) : IS.I64 n := by
  have := h.num n hn
  unfold IS.I64
  omega
theorem TI.num64 (h : TI I c e0 S D) (hI : I ≤ 4096) : Num64 D := fun m d hD k j hj => h.i64 hI (h.has (n := m) (k := k) (by unfold at_; rw [hD]; exact hj))
theorem TW.lim (h : TW base tg sg mb I L B q c A S D w) : I ≤ 4096 := by
  obtain ⟨M, hM⟩ := h.ps
  exact hM.lim.1
theorem Find_all (s : ByteArray) (hs : s.size ≤ maxLen) (w : World) (h : TW base tg sg mb I L B q c A S D w) :
    Calls Tryz.prog 26 #[.pointer (some ⟨tg, 0, none⟩), .string s] w fun e w' => e = .returned (.tuple #[.int .i64 (nu (findR D s)), .int .i64 (er (findR D s))]) ∧ Below w.heap.size w w' := Find_any s hs w h.tm
theorem List_all (s : ByteArray) (hs : s.size ≤ maxLen) (w : World) (h : TW base tg sg mb I L B q c A S D w) (hc : c < 65535) :
    Calls Tryz.prog 28 #[.pointer (some ⟨tg, 0, none⟩), .string s] w fun e w' => ∃ v, e = .returned (.tuple #[v, .int .i64 (er (listR D s))]) ∧ w'.ownsRow w.heap.size 133 3 v (li (listR D s)).length (lcl D (li (listR D s))) ∧ Below w.heap.size w w' :=
  List_any s hs w h.tm fun n d hd => ⟨(h.ti.asc n d hd).1, by have := (h.ti.asc n d hd).2; omega⟩
def tgt (D : Ds) (p : Int) (s : ByteArray) : Int := (at_ D p (last (PM.pN s))).getD 0
def unlS (S : Int → Option IN.Nd) (D : Ds) (s : ByteArray) : (Int → Option IN.Nd) × Ds := match unlR D s with
  | .error _ => (S, D)
  | .ok p => (IN.ulS S (tgt D p s), cutD D p (last (PM.pN s)))
def rmdS (S : Int → Option IN.Nd) (D : Ds) (s : ByteArray) : (Int → Option IN.Nd) × Ds := match rmdR D s with
  | .error _ => (S, D)
  | .ok p => (IN.ulS S (tgt D p s), upd (cutD D p (last (PM.pN s))) (tgt D p s) none)
theorem Unlink_all (s : ByteArray) (hs : s.size ≤ maxLen) (w : World) (h : TW base tg sg mb I L B q c A S D w) (hq : q < 1000000) :
    Calls Tryz.prog 31 #[.pointer (some ⟨tg, 0, none⟩), .string s] w fun e w' => e = .returned (.int .i64 (er (unlR D s))) ∧ TP base tg sg mb I L B q (c + 1) A (unlS S D s).1 (unlS S D s).2 w w' := by
  obtain ⟨M, hP⟩ := h.ps
  refine (Unlink_any w h.tm hP hq (h.ti.num64 h.lim) s hs).mono ?_
  intro e w' hh
  unfold unlS
  cases hv : unlR D s with
  | error e1 =>
    rw [hv] at hh
    exact h.did hh (h.ti.more (by omega))
  | ok p =>
    rw [hv] at hh
    obtain ⟨j, hj, hn, hd⟩ := hh
    have ht : tgt D p s = j := by unfold tgt; rw [hj]; rfl
    simp only
    rw [ht]
    exact h.did hd ((h.ti.unlink hj hn).more (by omega))
theorem TI.ul_dir (h : TI I c e0 S D) {j : Int} {dj : Dr} (hD : D j = some dj) : IN.ulS S j j = none := by
  obtain ⟨x, hx, hk, hl, -⟩ := h.dir hD
  rw [ulS_some hx (by omega), if_pos ⟨hl, (h.links j x hx).1.2 hk⟩, IN.upd_at]
theorem Rmdir_all (s : ByteArray) (hs : s.size ≤ maxLen) (w : World) (h : TW base tg sg mb I L B q c A S D w) (hq : q < 1000000) :
    Calls Tryz.prog 32 #[.pointer (some ⟨tg, 0, none⟩), .string s] w fun e w' => e = .returned (.int .i64 (er (rmdR D s))) ∧ TP base tg sg mb I L B q (c + 1) A (rmdS S D s).1 (rmdS S D s).2 w w' := by
  obtain ⟨M, hP⟩ := h.ps
  refine (Rmdir_any w h.tm hP hq (h.ti.num64 h.lim) s hs (fun p j hj ⟨dj, hD, hl⟩ => ⟨h.ti.not1 (by simp) hj, (h.ti.rmdir hj hD hl).alone rfl (h.ti.ul_dir hD)⟩)).mono ?_
  intro e w' hh
  unfold rmdS
  cases hv : rmdR D s with
  | error e1 =>
    rw [hv] at hh
    exact h.did hh (h.ti.more (by omega))
  | ok p =>
    rw [hv] at hh
    obtain ⟨j, hj, ⟨dj, hD, hl⟩, hd⟩ := hh
    have ht : tgt D p s = j := by unfold tgt; rw [hj]; rfl
    simp only
    rw [ht]
    exact h.did hd ((h.ti.rmdir hj hD hl).more (by omega))
def lnk (L : Nat) (S : Int → Option IN.Nd) (D : Ds) (s t : ByteArray) : Int × (Int → Option IN.Nd) × Ds :=
  if PM.perr s ≠ 0 then (PM.perr s, S, D) else if PM.perr t ≠ 0 then (PM.perr t, S, D) else match find D (PM.pN s) (PM.pD s) with
  | .error e => (e, S, D)
  | .ok n => if D n ≠ none then (27, S, D) else match vacant D 1 t with
    | .error e => (e, S, D)
    | .ok p => if IN.lkR L S n = 0 then (0, IN.lkS L S n, putD D p (last (PM.pN t)) n) else (IN.lkR L S n, S, D)
theorem lkS_no {L : Nat} {S : Int → Option IN.Nd} {n : Int} (h : IN.lkR L S n ≠ 0) : IN.lkS L S n = S := by
  unfold IN.lkR IN.askR at h
  unfold IN.lkS
  cases hx : S n with
  | none => rfl
  | some x =>
    rw [hx] at h
    simp only at h ⊢
    by_cases h2 : x.links < (L : Int)
    · rw [if_pos h2] at h; exact absurd rfl h
    · rw [if_neg h2]
theorem Link_all (s t : ByteArray) (hs : s.size ≤ maxLen) (ht : t.size ≤ maxLen) (w : World) (h : TW base tg sg mb I L B q c A S D w) (hc : c < 65535) :
    Calls Tryz.prog 30 #[.pointer (some ⟨tg, 0, none⟩), .string s, .string t] w fun e w' => e = .returned (.int .i64 (lnk L S D s t).1) ∧ TP base tg sg mb I L B q (c + 1) A (lnk L S D s t).2.1 (lnk L S D s t).2.2 w w' := by
  obtain ⟨M, hP⟩ := h.ps
  unfold lnk
  by_cases h0 : PM.perr s = 0
  · rw [if_neg (fun e => e h0)]
    by_cases h1 : PM.perr t = 0
    · rw [if_neg (fun e => e h1)]
      refine (Link_rest s t hs ht w h.tm hP h0 h1 (fun n d hd => by have := h.ti.few hc n d hd; omega) (fun n hn => h.ti.i64 h.lim (h.ti.find_in hn))).mono ?_
      intro e w' hh
      cases hf : find D (PM.pN s) (PM.pD s) with
      | error e1 =>
        rw [hf] at hh
        obtain ⟨rfl, hb⟩ := hh
        exact ⟨rfl, h.same hb⟩
      | ok n =>
        rw [hf] at hh
        simp only at hh ⊢
        by_cases hD : D n = none
        · rw [if_neg (fun e => e hD)] at hh ⊢
          cases hv : vacant D 1 t with
          | error e1 =>
            rw [hv] at hh
            obtain ⟨rfl, hb⟩ := hh
            exact ⟨rfl, h.same hb⟩
          | ok p =>
            rw [hv] at hh
            simp only at hh ⊢
            by_cases hr : IN.lkR L S n = 0
            · rw [if_pos hr] at hh ⊢
              rw [hr] at hh
              exact h.did hh (h.ti.link hv hD hr)
            · rw [if_neg hr] at hh ⊢
              rw [lkS_no hr] at hh
              exact h.did hh (h.ti.more (by omega))
        · rw [if_pos hD] at hh ⊢
          obtain ⟨rfl, hb⟩ := hh
          exact ⟨rfl, h.same hb⟩
    · rw [if_pos h1]
      refine (Link_parse s t hs ht w h.tm _ h1 (.inr ⟨h0, rfl⟩)).mono ?_
      rintro e w' ⟨rfl, hb⟩
      exact ⟨rfl, h.same hb⟩
  · rw [if_pos h0]
    refine (Link_parse s t hs ht w h.tm _ h0 (.inl rfl)).mono ?_
    rintro e w' ⟨rfl, hb⟩
    exact ⟨rfl, h.same hb⟩
end
end NT
namespace NT
open IN (Keeps)
section
variable {base : Nat} {w w' : World} {tg sg mb I L B q c : Nat} {A : Int → Option (Nat × Nat)} {D : Ds} {S : Int → Option IN.Nd}
open Classical in
noncomputable def lowN (S : Int → Option IN.Nd) : Nat := if h : ∃ n, IN.Low S n then Classical.choose h else 0
theorem low_uni {S : Int → Option IN.Nd} {n m : Nat} (h : IN.Low S n) (h' : IN.Low S m) : n = m := by
  rcases Nat.lt_trichotomy n m with h1 | h1 | h1
  · exact absurd h.2.1 (h'.2.2 n h.1 h1)
  · exact h1
  · exact absurd h'.2.1 (h.2.2 m h'.1 h1)
theorem lowN_eq {S : Int → Option IN.Nd} {n : Nat} (h : IN.Low S n) : lowN S = n := by
  have he : ∃ n, IN.Low S n := ⟨n, h⟩
  unfold lowN
  rw [dif_pos he]
  exact low_uni (Classical.choose_spec he) h
noncomputable def mk (I : Nat) (S : Int → Option IN.Nd) (D : Ds) (s : ByteArray) (kind : Int) : (Int × Int) × (Int → Option IN.Nd) × Ds :=
  if kind = 1 ∨ kind = 2 then
    if PM.perr s ≠ 0 then ((0, PM.perr s), S, D) else match vacant D kind s with
    | .error e => ((0, e), S, D)
    | .ok p => if IN.mkR I S kind ≠ 0 then ((0, IN.mkR I S kind), S, D) else (((lowN S : Nat), 0), IN.upd S (lowN S : Nat) (some (IN.newNd kind)), mkD D p (last (PM.pN s)) (lowN S : Nat) kind)
  else ((0, 2), S, D)
theorem mkR_low {I : Nat} {S : Int → Option IN.Nd} {kind : Int} (hk : kind = 1 ∨ kind = 2) (h : IN.mkR I S kind = 0) : ∃ n, n ≤ I ∧ IN.Low S n := by
  unfold IN.mkR at h
  rw [if_pos hk] at h
  split at h
  · rename_i h2
    exact IN.low_of h2
  · cases h
theorem Make_all (s : ByteArray) (hs : s.size ≤ maxLen) (kind : Int) (w : World) (h : TW base tg sg mb I L B q c A S D w) (hc : c < 65535) (hL : 1 ≤ L) :
    Calls Tryz.prog 29 #[.pointer (some ⟨tg, 0, none⟩), .string s, .int .i64 kind] w fun e w' => e = .returned (.tuple #[.int .i64 (mk I S D s kind).1.1, .int .i64 (mk I S D s kind).1.2]) ∧ TP base tg sg mb I L B q (c + 1) A (mk I S D s kind).2.1 (mk I S D s kind).2.2 w w' := by
  obtain ⟨M, hP⟩ := h.ps
  unfold mk
  by_cases hk : kind = 1 ∨ kind = 2
  · rw [if_pos hk]
    by_cases h0 : PM.perr s = 0
    · rw [if_neg (fun e => e h0)]
      cases hv : vacant D kind s with
      | error e1 =>
        refine (Make_vac s hs kind w h.tm hk h0 e1 hv (vacant_er hv)).mono ?_
        rintro e w' ⟨rfl, hb⟩
        exact ⟨rfl, h.same hb⟩
      | ok p =>
        simp only
        by_cases hr : IN.mkR I S kind = 0
        · rw [if_neg (fun e => e hr)]
          obtain ⟨n, hnI, hlow⟩ := mkR_low hk hr
          rw [lowN_eq hlow]
          obtain ⟨⟨dp, hdp⟩, -⟩ := vac_ok hv
          have hfew : dp.l.length < 65536 := by have := h.ti.few hc p dp hdp; omega
          have hn1 : 1 ≤ (n : Int) := by have := hlow.1; omega
          have hn2 : (n : Int) ≤ (I : Int) := by omega
          rcases hk with rfl | rfl
          · refine (Make_file I L B q M S s hs w h.tm hP h0 p hv dp hdp hfew n hr hlow hnI hL (h.ti.noD hlow.2.1)).mono ?_
            rintro e w' ⟨rfl, h1, h2, h3⟩
            exact ⟨rfl, ⟨A, h2, h1, h.ti.mkFile hv hlow.2.1 hn1 hn2⟩, h3⟩
          · refine (Make_dir I L B q M S s hs w h.tm hP h0 p hv dp hdp hfew n hr hlow hnI hL (h.ti.noD hlow.2.1) (h.ti.free hlow.2.1)).mono ?_
            rintro e w' ⟨rfl, h1, ⟨A', h2⟩, h3⟩
            exact ⟨rfl, ⟨A', h2, h1, h.ti.mkDir hv hlow.2.1 hn1 hn2⟩, h3⟩
        · rw [if_pos hr]
          refine (Make_full I L B q M S s hs kind w h.tm hP hk h0 p hv _ rfl hr).mono ?_
          rintro e w' ⟨rfl, hb⟩
          exact ⟨rfl, h.same hb⟩
    · rw [if_pos h0]
      refine (Make_parse s hs kind w h.tm hk h0).mono ?_
      rintro e w' ⟨rfl, hb⟩
      exact ⟨rfl, h.same hb⟩
  · rw [if_neg hk]
    refine (Make_kind s kind w h.tm hk).mono ?_
    rintro e w' ⟨rfl, hb⟩
    exact ⟨rfl, h.same hb⟩
theorem movV_ok {D : Ds} {hh : Nat} {pf pt : Int} {kf kt : ByteArray} {df dt : Bool} (h : movV D hh pf kf df pt kt dt = 0) : PM.name kf = true ∧ PM.name kt = true ∧ ∃ n, at_ D pf kf = some n ∧ (match at_ D pt kt with
    | some m => m = n ∨ ((D m = none ↔ D n = none) ∧ (∀ dm, D m = some dm → dm.l = []) ∧ (D n ≠ none → n ∉ anc D hh pt))
    | none => D n ≠ none → n ∉ anc D hh pt) := by
  unfold movV at h
  split at h
  · cases h
  · rename_i hnm
    simp only [not_or, Bool.not_eq_false] at hnm
    refine ⟨hnm.1, hnm.2, ?_⟩
    cases hn : at_ D pf kf with
    | none => rw [hn] at h; cases h
    | some n =>
      rw [hn] at h
      simp only at h
      refine ⟨n, rfl, ?_⟩
      split at h
      · cases h
      · cases hm : at_ D pt kt with
        | none =>
          rw [hm] at h
          simp only at h ⊢
          intro h1 h2
          rw [if_pos ⟨h1, h2⟩] at h
          cases h
        | some m =>
          rw [hm] at h
          simp only at h ⊢
          by_cases e1 : m = n
          · exact .inl e1
          · rw [if_neg e1] at h
            split at h
            · cases h
            · rename_i h2
              split at h
              · cases h
              · rename_i h3
                split at h
                · cases h
                · rename_i h4
                  refine .inr ⟨?_, fun dm hdm => ?_, fun h5 h6 => ?_⟩
                  · constructor
                    · intro h5
                      exact Decidable.not_not.1 fun h6 => h3 ⟨h5, h6⟩
                    · intro h5
                      exact Decidable.not_not.1 fun h6 => h2 ⟨h6, h5⟩
                  · have h5 : ¬ emptyD D m = false := fun h6 => h4 ⟨by rw [hdm]; simp, h6⟩
                    unfold emptyD at h5
                    rw [hdm] at h5
                    simpa using h5
                  · rw [if_pos ⟨h5, h6⟩] at h
                    cases h
def mvS (S : Int → Option IN.Nd) (D : Ds) (pf pt : Int) (kf kt : ByteArray) : (Int → Option IN.Nd) × Ds :=
  let n := (at_ D pf kf).getD 0
  match at_ D pt kt with
  | none => (S, movD D pf kf pt kt n)
  | some m => if m = n then (S, D) else (IN.ulS S m, if D m = none then movD D pf kf pt kt n else upd (movD D pf kf pt kt n) m none)
theorem move_all (pf pt : Int) (kf kt : ByteArray) (df dt : Bool) (hkf : NS.Sm kf) (hkt : kt.size ≤ 281474976710656) (w : World) (h : TW base tg sg mb I L B q c A S D w) (hq : q < 1000000) (hc : c < 65535) (hpf : D pf ≠ none) (hpt : D pt ≠ none) (hv : movV D (NT.far D pt) pf kf df pt kt dt = 0) :
    Calls Tryz.prog 82 #[.pointer (some ⟨tg, 0, none⟩), .agg #[.int .i64 pf, IS.ptr (pa A pf), .string kf, .bool df], .agg #[.int .i64 pt, IS.ptr (pa A pt), .string kt, .bool dt]] w fun e w' => e = .returned (.tuple #[]) ∧ TP base tg sg mb I L B q (c + 1) A (mvS S D pf pt kf kt).1 (mvS S D pf pt kf kt).2 w w' := by
  obtain ⟨M, hP⟩ := h.ps
  obtain ⟨dpf, hdf⟩ := Option.ne_none_iff_exists'.1 hpf
  obtain ⟨dpt, hdt⟩ := Option.ne_none_iff_exists'.1 hpt
  obtain ⟨hk1, hk2, n, hn, hrest⟩ := movV_ok hv
  have hr := h.ti.far pt dpt hdt
  have hn1 := h.ti.not1 (by simp) hn
  have hn0 : n ≠ 0 := fun e => by
    have := h.ti.num n (h.ti.has hn)
    omega
  have hfew := h.ti.few hc
  unfold mvS
  rw [hn]
  simp only [Option.getD_some]
  cases hm : at_ D pt kt with
  | none =>
    rw [hm] at hrest
    simp only at hrest ⊢
    cases hDn : D n with
    | none =>
      refine (move_file_new I L B q M S pf pt n kf kt df dt hkf hkt w h.tm hP hq dpf dpt hdf hdt hn hn0 hfew hDn hm).mono ?_
      rintro e w' ⟨rfl, h1, h2, h3⟩
      exact ⟨rfl, ⟨A, h2, h1, h.ti.movFile hn hDn hdt hm hk2⟩, h3⟩
    | some dn =>
      have hne : D n ≠ none := by rw [hDn]; simp
      refine (move_dir_new I L B q M S pf pt n kf kt df dt hkf hkt w h.tm hP hq dpf dpt hdf hdt hn hn0 hfew hne hm).mono ?_
      rintro e w' ⟨rfl, h1, h2, h3⟩
      exact ⟨rfl, ⟨A, h2, h1, h.ti.movDir hn hDn hdt hm hk2 hr (hrest hne)⟩, h3⟩
  | some m =>
    rw [hm] at hrest
    simp only at hrest ⊢
    by_cases hmn : m = n
    · subst hmn
      rw [if_pos rfl]
      refine (move_same pf pt m kf kt df dt hkf hkt w h.tm dpf dpt hdf hdt hn hm).mono ?_
      rintro e w' ⟨rfl, hb⟩
      exact ⟨rfl, h.same hb⟩
    · rw [if_neg hmn]
      obtain ⟨h5, h6, h7⟩ := hrest.resolve_left hmn
      have hm64 := h.ti.i64 h.lim (h.ti.has hm)
      cases hDm : D m with
      | none =>
        have hDn := h5.1 hDm
        rw [if_pos rfl]
        refine (move_file_over I L B q M S pf pt n kf kt df dt hkf hkt w h.tm hP hq dpf dpt hdf hdt hn hn0 hfew hDn m hm hmn hm64).mono ?_
        rintro e w' ⟨rfl, h1, h2, h3⟩
        exact ⟨rfl, ⟨A, h2, h1, h.ti.movFileOver hn hDn hdt hm hDm hmn hk2⟩, h3⟩
      | some dm =>
        have hDn : D n ≠ none := fun e => by rw [h5.2 e] at hDm; cases hDm
        obtain ⟨dn, hdn⟩ := Option.ne_none_iff_exists'.1 hDn
        rw [if_neg (by simp)]
        have hti := h.ti.movDirOver hn hdn hdt hm hDm (h6 dm hDm) hmn hk2 hr (h7 hDn)
        refine (move_dir_over I L B q M S pf pt n kf kt df dt hkf hkt w h.tm hP hq dpf dpt hdf hdt hn hn0 hfew hDn m hm hmn hm64).mono ?_
        rintro e w' ⟨rfl, h1, h2, h3⟩
        exact ⟨rfl, ⟨_, h2.shrink (h.ti.not1 (by simp) hm) (hti.alone rfl (h.ti.ul_dir hDm)), h1, hti⟩, h3⟩
noncomputable def ren (S : Int → Option IN.Nd) (D : Ds) (s t : ByteArray) : Int × (Int → Option IN.Nd) × Ds :=
  if PM.perr s ≠ 0 then (PM.perr s, S, D) else if PM.perr t ≠ 0 then (PM.perr t, S, D) else if PM.pN t = [] then (2, S, D) else match src D s with
  | .error e => (e, S, D)
  | .ok pf => match dst D s t pf with
    | .error e => (e, S, D)
    | .ok pt => (0, mvS S D pf pt (last (PM.pN s)) (last (PM.pN t)))
theorem Rename_all (s t : ByteArray) (hs : s.size ≤ maxLen) (ht : t.size ≤ maxLen) (w : World) (h : TW base tg sg mb I L B q c A S D w) (hq : q < 1000000) (hc : c < 65535) :
    Calls Tryz.prog 27 #[.pointer (some ⟨tg, 0, none⟩), .string s, .string t] w fun e w' => e = .returned (.int .i64 (ren S D s t).1) ∧ TP base tg sg mb I L B q (c + 1) A (ren S D s t).2.1 (ren S D s t).2.2 w w' := by
  unfold ren
  by_cases h0 : PM.perr s = 0
  · rw [if_neg (fun e => e h0)]
    by_cases h1 : PM.perr t = 0
    · rw [if_neg (fun e => e h1)]
      by_cases hl : PM.pN t = []
      · rw [if_pos hl]
        refine (Ren_none s t hs ht w h.tm h0 h1 hl).mono ?_
        rintro e w' ⟨rfl, hb⟩
        exact ⟨rfl, h.same hb⟩
      · rw [if_neg hl]
        cases hsr : src D s with
        | error e1 =>
          refine (Ren_src s t hs ht w h.tm h0 h1 hl e1 hsr).mono ?_
          rintro e w' ⟨rfl, hb⟩
          exact ⟨rfl, h.same hb⟩
        | ok pf =>
          simp only
          cases hds : dst D s t pf with
          | error e1 =>
            refine (Ren_dst s t hs ht w h.tm h0 h1 hl pf hsr h.ti.nodup h.ti.root h.ti.far e1 hds).mono ?_
            rintro e w' ⟨rfl, hb⟩
            exact ⟨rfl, h.same hb⟩
          | ok pt =>
            obtain ⟨hp, hv⟩ := dst_place hds
            obtain ⟨dpf, hdf⟩ := place_dir2 (show place D (PM.pN s) 2 = .ok pf from hsr)
            obtain ⟨dpt, hdt⟩ := place_dir2 hp
            refine Ren_move s t hs ht w h.tm h0 h1 hl pf hsr h.ti.nodup h.ti.root h.ti.far pt hds (fun w' => TP base tg sg mb I L B q (c + 1) A (mvS S D pf pt (last (PM.pN s)) (last (PM.pN t))).1 (mvS S D pf pt (last (PM.pN s)) (last (PM.pN t))).2 w w') fun W hb => ?_
            refine (move_all pf pt _ _ (PM.pD s) (PM.pD t) (last_sm (pN_sm s)) (last_le t) W (h.keep hb) hq hc (by rw [hdf]; simp) (by rw [hdt]; simp) hv).mono ?_
            rintro e w' ⟨rfl, h2, h3⟩
            exact ⟨rfl, h2, (Keeps.new hb h.tm.low).trans h3⟩
    · rw [if_pos h1]
      refine (Ren_parse s t hs ht w h.tm _ h1 (.inr ⟨h0, rfl⟩)).mono ?_
      rintro e w' ⟨rfl, hb⟩
      exact ⟨rfl, h.same hb⟩
  · rw [if_pos h0]
    refine (Ren_parse s t hs ht w h.tm _ h0 (.inl rfl)).mono ?_
    rintro e w' ⟨rfl, hb⟩
    exact ⟨rfl, h.same hb⟩
end
end NT
end Go.Proofs.YtmnmheocmcmpmaaGreat

namespace Go.Proofs.YtmnmheocmcmpmaaGreat
set_option linter.unusedVariables false
set_option linter.unusedSimpArgs false
namespace RN
open NT (Dr Ds er nu findR)
theorem toD_cons (x : DD) (l : List DD) (m : Int) : toD (x :: l) m = if x.ino = m then some ⟨x.up, two x.l⟩ else toD l m := by
  by_cases e : x.ino = m <;> simp [toD, e]
theorem toD_off : ∀ {l : List DD} {n : Int}, n ∉ l.map (·.ino) → toD l n = none
  | [], n, _ => rfl
  | x :: l, n, h => by
    rw [List.map_cons, List.mem_cons, not_or] at h
    rw [toD_cons, if_neg (fun e => h.1 e.symm), toD_off h.2]
theorem toD_mem : ∀ {l : List DD} {x : DD}, (l.map (·.ino)).Nodup → x ∈ l → toD l x.ino = some ⟨x.up, two x.l⟩
  | y :: l, x, hn, hx => by
    rw [List.map_cons, List.nodup_cons] at hn
    rw [toD_cons]
    rcases List.mem_cons.1 hx with rfl | hx
    · rw [if_pos rfl]
    · rw [if_neg (fun e => hn.1 (by rw [e]; exact List.mem_map.2 ⟨x, hx, rfl⟩)), toD_mem hn.2 hx]
theorem toD_set : ∀ (l : List DD) (n : Int) (x' : DD), x'.ino = n → ix l n < l.length → ∀ m, toD (l.set (ix l n) x') m = if m = n then some ⟨x'.up, two x'.l⟩ else toD l m
  | [], n, x', _, h, m => by cases h
  | x :: l, n, x', hx, h, m => by
    by_cases e : x.ino = n
    · have h1 : ix (x :: l) n = 0 := by simp [ix, e]
      rw [h1, List.set_cons_zero, toD_cons, toD_cons, hx, e]
      by_cases e2 : m = n
      · rw [if_pos e2.symm, if_pos e2]
      · rw [if_neg (fun e3 => e2 e3.symm), if_neg e2, if_neg (fun e3 => e2 e3.symm)]
    · have h1 : ix (x :: l) n = ix l n + 1 := by simp [ix, e]
      rw [h1, List.length_cons] at h
      rw [h1, List.set_cons_succ, toD_cons, toD_cons, toD_set l n x' hx (by omega) m]
      by_cases e2 : x.ino = m
      · rw [if_pos e2, if_pos e2, if_neg (fun e3 => e (e2.trans e3))]
      · rw [if_neg e2, if_neg e2]
theorem ino_set : ∀ (l : List DD) (n : Int) (x' : DD), x'.ino = n → (l.set (ix l n) x').map (·.ino) = l.map (·.ino)
  | [], n, x', _ => rfl
  | x :: l, n, x', hx => by
    by_cases e : x.ino = n
    · have h1 : ix (x :: l) n = 0 := by simp [ix, e]
      rw [h1, List.set_cons_zero, List.map_cons, List.map_cons, hx, e]
    · have h1 : ix (x :: l) n = ix l n + 1 := by simp [ix, e]
      rw [h1, List.set_cons_succ, List.map_cons, List.map_cons, ino_set l n x' hx]
theorem ino_erase : ∀ (l : List DD) (n : Int), ((l.eraseIdx (ix l n)).map (·.ino)).Sublist (l.map (·.ino)) := fun l n => (List.eraseIdx_sublist l _).map _
theorem toD_erase : ∀ (l : List DD) (n : Int), (l.map (·.ino)).Nodup → ∀ m, toD (l.eraseIdx (ix l n)) m = if m = n then none else toD l m
  | [], n, _, m => by simp [toD]
  | x :: l, n, hn, m => by
    rw [List.map_cons, List.nodup_cons] at hn
    by_cases e : x.ino = n
    · have h1 : ix (x :: l) n = 0 := by simp [ix, e]
      rw [h1, List.eraseIdx_cons_zero, toD_cons, e]
      by_cases e2 : m = n
      · subst e2
        rw [if_pos rfl, toD_off (by rw [← e]; exact hn.1)]
      · rw [if_neg e2, if_neg (fun e3 => e2 e3.symm)]
    · have h1 : ix (x :: l) n = ix l n + 1 := by simp [ix, e]
      rw [h1, List.eraseIdx_cons_succ, toD_cons, toD_cons, toD_erase l n hn.2 m]
      by_cases e2 : x.ino = m
      · rw [if_pos e2, if_pos e2, if_neg (fun e3 => e (e2.trans e3))]
      · rw [if_neg e2, if_neg e2]
theorem toD_app : ∀ (l : List DD) (x : DD), toD l x.ino = none → ∀ m, toD (l ++ [x]) m = if m = x.ino then some ⟨x.up, two x.l⟩ else toD l m
  | [], x, _, m => by
    rw [List.nil_append, toD_cons]
    by_cases e : m = x.ino
    · rw [if_pos e.symm, if_pos e]
    · rw [if_neg (fun e2 => e e2.symm), if_neg e]
  | y :: l, x, h, m => by
    rw [toD_cons] at h
    by_cases e : y.ino = x.ino
    · rw [if_pos e] at h; cases h
    · rw [if_neg e] at h
      rw [List.cons_append, toD_cons, toD_cons, toD_app l x h m]
      by_cases e2 : y.ino = m
      · rw [if_pos e2, if_pos e2, if_neg (fun e3 => e (e2.trans e3))]
      · rw [if_neg e2, if_neg e2]
theorem two_drop (k : ByteArray) : ∀ (l : List (ByteArray × Int × Int)), two (dropL k l) = NT.del k (two l)
  | [] => rfl
  | x :: l => by
    have ih := two_drop k l
    unfold dropL NT.del two at ih ⊢
    by_cases e : x.1 = k <;> simp [e] at ih ⊢ <;> exact ih
theorem two_len (l : List (ByteArray × Int × Int)) : (two l).length = l.length := by simp [two]
theorem del_off {k : ByteArray} : ∀ {l : List (ByteArray × Int)}, NT.look k l = none → NT.del k l = l
  | [], _ => rfl
  | x :: l, h => by
    unfold NT.look at h
    by_cases e : x.1 = k
    · rw [if_pos e] at h; cases h
    · rw [if_neg e] at h
      have ih := del_off h
      unfold NT.del at ih ⊢
      rw [List.filter_cons_of_pos (by simp [e]), ih]
theorem put_mem (l : List (ByteArray × Int × Int)) (x y : ByteArray × Int × Int) : y ∈ putL l x ↔ y = x ∨ y ∈ l := by
  have : y ∈ l ↔ y ∈ l.take (px l x.1) ∨ y ∈ l.drop (px l x.1) := by rw [← List.mem_append, List.take_append_drop]
  unfold putL
  rw [List.mem_append, List.mem_append, List.mem_singleton, this]
  constructor
  · rintro ((h | h) | h)
    · exact .inr (.inl h)
    · exact .inl h
    · exact .inr (.inr h)
  · rintro (h | h | h)
    · exact .inl (.inr h)
    · exact .inl (.inl h)
    · exact .inr h
theorem put_len (l : List (ByteArray × Int × Int)) (x : ByteArray × Int × Int) : (putL l x).length = l.length + 1 := by
  unfold putL
  have := px_le l x.1
  rw [List.length_append, List.length_append, List.length_take, List.length_drop, List.length_singleton]; omega
structure RK (l : List DD) (D : Ds) (κ : Int → Int) : Prop where
  eq : toD l = D
  nd : (l.map (·.ino)).Nodup
  kd : ∀ x ∈ l, ∀ y ∈ x.l, y.2.2 = κ y.2.1
section
variable {l : List DD} {D : Ds} {κ κ' : Int → Int} {n p a : Int} {d : Dr} {k : ByteArray}
theorem RK.at_ (h : RK l D κ) (hD : D n = some d) : ∃ hn : ix l n < l.length, l[ix l n].ino = n ∧ d.up = l[ix l n].up ∧ d.l = two l[ix l n].l := by
  rw [← h.eq] at hD
  obtain ⟨h1, -, h2, h3⟩ := dir_some hD
  exact ⟨h1, ix_at l n h1, h2, h3⟩
theorem RK.set (h : RK l D κ) (hD : D n = some d) (x' : DD) (hx : x'.ino = n) (hk : ∀ y ∈ x'.l, y.2.2 = κ y.2.1) : RK (l.set (ix l n) x') (NT.upd D n (some ⟨x'.up, two x'.l⟩)) κ := by
  obtain ⟨hn, -⟩ := h.at_ hD
  refine ⟨?_, by rw [ino_set l n x' hx]; exact h.nd, fun z hz y hy => ?_⟩
  · funext m
    rw [toD_set l n x' hx hn m, ← h.eq]
    rfl
  · rcases List.mem_or_eq_of_mem_set hz with hz | rfl
    · exact h.kd z hz y hy
    · exact hk y hy
theorem RK.cut (h : RK l D κ) (hD : D n = some d) (hn : ix l n < l.length) (k : ByteArray) : RK (l.set (ix l n) (setL l[ix l n] (dropL k l[ix l n].l))) (NT.cutD D n k) κ := by
  obtain ⟨hn2, h1, h2, h3⟩ := h.at_ hD
  have := h.set hD (setL l[ix l n] (dropL k l[ix l n].l)) h1 (fun y hy => h.kd _ (List.getElem_mem hn) y (List.mem_filter.1 hy).1)
  have e : NT.upd D n (some ⟨(setL l[ix l n] (dropL k l[ix l n].l)).up, two (setL l[ix l n] (dropL k l[ix l n].l)).l⟩) = NT.cutD D n k := by
    funext m
    unfold NT.upd NT.cutD setL
    simp only
    by_cases e : m = n
    · rw [if_pos e, if_pos e, hD, two_drop, ← h3, ← h2]; rfl
    · rw [if_neg e, if_neg e]
  rw [e] at this
  exact this
theorem RK.put (h : RK l D κ) (hD : D n = some d) (hn : ix l n < l.length) {kd : Int} (hl : NT.look k d.l = none) (hk : kd = κ a) : RK (l.set (ix l n) (setL l[ix l n] (putL l[ix l n].l (k, a, kd)))) (NT.putD D n k a) κ := by
  obtain ⟨hn2, h1, h2, h3⟩ := h.at_ hD
  have := h.set hD (setL l[ix l n] (putL l[ix l n].l (k, a, kd))) h1 (fun y hy => by
    rcases (put_mem _ _ _).1 hy with rfl | hy
    · exact hk
    · exact h.kd _ (List.getElem_mem hn) y hy)
  have e : NT.upd D n (some ⟨(setL l[ix l n] (putL l[ix l n].l (k, a, kd))).up, two (setL l[ix l n] (putL l[ix l n].l (k, a, kd))).l⟩) = NT.putD D n k a := by
    funext m
    unfold NT.upd NT.putD setL
    simp only
    by_cases e : m = n
    · rw [if_pos e, if_pos e, hD, putL_two, ← h3, ← h2]
      show _ = some (Dr.mk d.up (NT.put k a d.l))
      unfold NT.put
      rw [del_off hl]
    · rw [if_neg e, if_neg e]
  rw [e] at this
  exact this
theorem RK.up (h : RK l D κ) (hD : D n = some d) (hn : ix l n < l.length) (p : Int) : RK (l.set (ix l n) ⟨l[ix l n].ino, p, l[ix l n].l⟩) (NT.upD D n p) κ := by
  obtain ⟨hn2, h1, h2, h3⟩ := h.at_ hD
  have := h.set hD ⟨l[ix l n].ino, p, l[ix l n].l⟩ h1 (fun y hy => h.kd _ (List.getElem_mem hn) y hy)
  have e : NT.upd D n (some ⟨p, two l[ix l n].l⟩) = NT.upD D n p := by
    funext m
    unfold NT.upd NT.upD
    by_cases e : m = n
    · rw [if_pos e, if_pos e, hD, ← h3]; rfl
    · rw [if_neg e, if_neg e]
  rw [e] at this
  exact this
theorem RK.new (h : RK l D κ) (hD : D n = none) (p : Int) : RK (l ++ [⟨n, p, []⟩]) (NT.upd D n (some ⟨p, []⟩)) κ := by
  refine ⟨?_, ?_, fun z hz y hy => ?_⟩
  · funext m
    rw [toD_app l ⟨n, p, []⟩ (by rw [h.eq]; exact hD) m, h.eq]
    rfl
  · rw [List.map_append, List.nodup_append]
    refine ⟨h.nd, by simp, fun x hx y hy e => ?_⟩
    have e2 : y = n := by simpa using hy
    obtain ⟨z, hz, hz2⟩ := List.mem_map.1 hx
    have h2 := toD_mem h.nd hz
    rw [hz2, e, e2, h.eq, hD] at h2
    cases h2
  · rcases List.mem_append.1 hz with hz | hz
    · exact h.kd z hz y hy
    · rw [List.mem_singleton.1 hz] at hy
      cases hy
theorem RK.gone (h : RK l D κ) (n : Int) : RK (l.eraseIdx (ix l n)) (NT.upd D n none) κ := by
  refine ⟨?_, h.nd.sublist (ino_erase l n), fun z hz y hy => h.kd z (List.mem_of_mem_eraseIdx hz) y hy⟩
  funext m
  rw [toD_erase l n h.nd m, h.eq]
  rfl
theorem RK.kap (h : RK l D κ) (he : ∀ n d k j, D n = some d → (k, j) ∈ d.l → κ j = κ' j) : RK l D κ' := by
  refine ⟨h.eq, h.nd, fun x hx y hy => ?_⟩
  rw [h.kd x hx y hy]
  have := toD_mem h.nd hx
  rw [h.eq] at this
  exact he _ _ y.1 y.2.1 this (List.mem_map.2 ⟨y, hy, rfl⟩)
end
theorem sub_len : ∀ {a b : List Int}, a.Nodup → (∀ x ∈ a, x ∈ b) → a.length ≤ b.length
  | [], b, _, _ => Nat.zero_le _
  | x :: a, b, hn, h => by
    rw [List.nodup_cons] at hn
    have hx := h x List.mem_cons_self
    have := sub_len (a := a) (b := b.erase x) hn.2 fun y hy => (List.mem_erase_of_ne (fun e => hn.1 (by rw [← e]; exact hy))).2 (h y (List.mem_cons_of_mem _ hy))
    rw [List.length_erase_of_mem hx] at this
    have := List.length_pos_of_mem hx
    rw [List.length_cons]; omega
theorem anc_len {D : Ds} : ∀ {q : Nat} {n : Int}, NT.Reach D q n → (NT.anc D q n).length = q + 1
  | 0, n, _ => rfl
  | q + 1, n, h => by
    obtain ⟨-, x, hx, h2⟩ := h
    unfold NT.anc
    rw [hx]
    simp only [List.length_cons]
    rw [anc_len h2]
theorem anc_reach {D : Ds} : ∀ {q : Nat} {n : Int}, NT.Reach D q n → ∀ m ∈ NT.anc D q n, ∃ q', q' ≤ q ∧ NT.Reach D q' m
  | 0, n, h, m, hm => by
    rw [show NT.anc D 0 n = [n] from rfl, List.mem_singleton] at hm
    subst hm
    exact ⟨0, Nat.le_refl _, h⟩
  | q + 1, n, h, m, hm => by
    have h' := h
    obtain ⟨-, x, hx, h2⟩ := h'
    unfold NT.anc at hm
    rw [hx] at hm
    rcases List.mem_cons.1 hm with rfl | hm
    · exact ⟨q + 1, Nat.le_refl _, h⟩
    · obtain ⟨q', h3, h4⟩ := anc_reach h2 m hm
      exact ⟨q', by omega, h4⟩
theorem anc_nodup {D : Ds} : ∀ {q : Nat} {n : Int}, NT.Reach D q n → (NT.anc D q n).Nodup
  | 0, n, _ => by unfold NT.anc; simp
  | q + 1, n, h => by
    have h' := h
    obtain ⟨-, x, hx, h2⟩ := h'
    unfold NT.anc
    rw [hx]
    simp only
    rw [List.nodup_cons]
    refine ⟨fun hm => ?_, anc_nodup h2⟩
    obtain ⟨q', h3, h4⟩ := anc_reach h2 n hm
    have := NT.reach_one h h4
    omega
theorem reach_len {l : List DD} {D : Ds} {κ : Int → Int} (h : RK l D κ) (h1 : D 1 ≠ none) {q : Nat} {n : Int} (hr : NT.Reach D q n) : q < l.length := by
  have := sub_len (anc_nodup hr) (b := l.map (·.ino)) fun m hm => by
    obtain ⟨q', -, h4⟩ := anc_reach hr m hm
    have h5 : D m ≠ none := by
      cases q' with
      | zero => rw [show m = 1 from h4]; exact h1
      | succ q' =>
        obtain ⟨-, x, hx, -⟩ := h4
        rw [hx]; simp
    exact Decidable.byContradiction fun h6 => h5 (by rw [← h.eq]; exact toD_off h6)
  rw [anc_len hr, List.length_map] at this
  omega
end RN
end Go.Proofs.YtmnmheocmcmpmaaGreat

namespace Go.Proofs.YtmnmheocmcmpmaaGreat
open Go.ChangeShapes Go.WideShapes Go.ChangeAt Go.RowKit
set_option linter.unusedVariables false
set_option linter.unusedSimpArgs false
namespace IN
section
variable {base : Nat} {w w' : World} {rg : Nat} {I B L z3 z4 z5 z6 : Int} {v : Value} {q : List RE}
theorem RM.opened (h : RM base w rg I B L z3 z4 z5 z6 v q) {p : Nat} (hp : p < q.length) : ∃ g N cap, v = .slice (some ⟨g, 0, none⟩) N cap ∧ q.length = N ∧ (p : Int) < (N : Int) ∧ N ≤ cap ∧ cap ≤ 9223372036854775807 ∧ base ≤ g ∧ g ≠ rg ∧ g < w.heap.size ∧ rg < w.heap.size ∧ (∀ j, w.frozen? ⟨g, j, none⟩ = false) ∧ (∀ j, w.frozen? ⟨rg, j, none⟩ = false) ∧
    w.cell? ⟨rg, 0, none⟩ = some (.int .i64 I) ∧ w.cell? ⟨rg, 1, none⟩ = some (.int .i64 B) ∧ w.cell? ⟨rg, 2, none⟩ = some (.int .i64 L) ∧ w.cell? ⟨rg, 7, none⟩ = some (.slice (some ⟨g, 0, none⟩) N cap) ∧
    w.cell? ⟨g, p * 7, none⟩ = some (.int .i64 q[p].n) ∧ w.cell? ⟨g, p * 7 + 1, none⟩ = some (.int .i64 q[p].kd) ∧ w.cell? ⟨g, p * 7 + 2, none⟩ = some (.int .i64 q[p].lk) ∧ w.cell? ⟨g, p * 7 + 3, none⟩ = some (.int .i64 q[p].op) ∧ w.cell? ⟨g, p * 7 + 4, none⟩ = some (.int .i64 q[p].sz) ∧ w.cell? ⟨g, p * 7 + 5, none⟩ = some (.int .i64 q[p].st) ∧ w.cell? ⟨g, p * 7 + 6, none⟩ = some q[p].v := by
  obtain ⟨g, cap, rfl, h1, h2, h3, h4, h5, h6, h7⟩ := h.el hp
  exact ⟨g, _, cap, rfl, rfl, by omega, h4, h5, h1, h3, h2, h.box.lt, h6, h.box.fz, h.box.cell rfl, h.box.cell rfl, h.box.cell rfl, h.box.cell rfl, by have := h7 0 _ rfl; rwa [Nat.add_zero] at this, h7 1 _ rfl, h7 2 _ rfl, h7 3 _ rfl, h7 4 _ rfl, h7 5 _ rfl, h7 6 _ rfl⟩
theorem RM.drewN (h : RM base w rg I B L z3 z4 z5 z6 v q) (n : Nat) : RM base (w.drewN n) rg I B L z3 z4 z5 z6 v q := h.keep ⟨rfl, rfl, rfl, Nat.le_refl _, fun _ _ => rfl⟩
theorem Fits.drewN {l : List (Nat × Nd)} (h : Fits w q l) (n : Nat) : Fits (w.drewN n) q l := h.keep ⟨rfl, rfl, rfl, Nat.le_refl _, fun _ _ => rfl⟩
set_option maxRecDepth 100000 in
set_option maxHeartbeats 4000000 in
theorem rat_any (n : Int) (h : RM base w rg I B L z3 z4 z5 z6 v q) (K : Nat) (hK : K ≤ q.length) (hne : ∀ j (hj : j < q.length), j < K → q[j].n ≠ n) (heq : ∀ hj : K < q.length, q[K].n = n) (hlen : q.length ≤ 100000) :
    Calls Tryz.prog 185 #[.pointer (some ⟨rg, 0, none⟩), .int .i64 n] w fun e w' => e = .returned (.int .i64 (if K < q.length then (K : Int) else -1)) ∧ w = w' := by
  have c7 := h.box.cell (j := 7) rfl
  obtain ⟨ao, cap, hv⟩ := Own.form h.row
  have hE := W_hid (fun i (hi : i < q.length) => h.opened hi)
  rw [hv] at hE
  subst hv
  obtain ⟨N, hN⟩ : ∃ N, q.length = N := ⟨_, rfl⟩
  rw [hN] at c7 hK hlen ⊢
  replace hN := W_hid hN
  replace hne := W_hid hne
  replace heq := W_hid heq
  clear h
  go_enter Tryz.func185, Tryz.ntmps185
  go_wp2_with fail
  go_loopw [5] (fun i wr => ∃ k : Nat, k ≤ K ∧ i = .int .i64 (k : Int) ∧ w = wr) (fun i _ => N - (intOf i).toNat)
  case atStart => exact ⟨0, Nat.zero_le _, rfl, rfl⟩
  case round =>
    obtain ⟨k, hk, rfl, hwr⟩ := hrel
    subst hwr
    by_cases hlt : k < N
    · have hkq : k < q.length := by rw [hN.out]; exact hlt
      obtain ⟨g, N', cap', hv, hN', -, -, -, -, -, -, -, -, -, -, -, -, -, e0, -⟩ := hE.out k hkq
      simp only [Value.slice.injEq] at hv
      obtain ⟨rfl, -, -⟩ := hv
      clear hN' N'
      by_cases hkK : k < K
      · have hx := hne.out k hkq hkK
        obtain ⟨a, ha⟩ : ∃ a, q[k].n = a := ⟨_, rfl⟩
        rw [ha] at e0 hx
        clear ha hkq
        go_wp2_with fail
        go_roundw
        case rel => exact ⟨k + 1, by omega, by go_num, by first | trivial | rfl⟩
        case measure => simp [intOf]; omega
      · obtain rfl : k = K := by omega
        have hx := heq.out hkq
        rw [hx] at e0
        clear hx hkq
        go_wp2_with fail
        go_ret
        exact ⟨rfl, by first | trivial | rfl⟩
    · obtain rfl : k = K := by omega
      have hkN : k = N := by omega
      replace hkN := W_hid hkN
      have hge : (N : Int) ≤ (k : Int) := by omega
      go_wp2_with fail
      go_ret
      exact ⟨rfl, by first | trivial | rfl⟩
set_option maxRecDepth 100000 in
set_option maxHeartbeats 8000000 in
theorem rgone_no (p : Nat) (h : RM base w rg I B L z3 z4 z5 z6 v q) (hp : p < q.length) (hz : ¬ (q[p].lk = 0 ∧ q[p].op = 0)) :
    Calls Tryz.prog 211 #[.pointer (some ⟨rg, 0, none⟩), .int .i64 (p : Int)] w fun e w' => e = .returned (.tuple #[]) ∧ w = w' := by
  obtain ⟨g, N, cap, rfl, hN, hpN, hNc, hcm, -, -, -, -, -, -, -, -, -, c7, -, -, e2, e3, -⟩ := h.opened hp
  obtain ⟨a, ha⟩ : ∃ a, q[p].lk = a := ⟨_, rfl⟩
  obtain ⟨b, hb⟩ : ∃ b, q[p].op = b := ⟨_, rfl⟩
  rw [ha] at e2 hz
  rw [hb] at e3 hz
  clear ha hb hN hp h
  by_cases h0 : a = 0
  · have h1 : ¬ b = 0 := fun e => hz ⟨h0, e⟩
    subst h0
    clear hz
    go_enter Tryz.func211, Tryz.ntmps211
    go_wp2_with fail
    go_end0
    exact ⟨rfl, rfl⟩
  · clear hz
    go_enter Tryz.func211, Tryz.ntmps211
    go_wp2_with fail
    go_end0
    exact ⟨rfl, rfl⟩
set_option maxRecDepth 100000 in
set_option maxHeartbeats 8000000 in
theorem rgone_yes (p : Nat) {l : List (Nat × Nd)} (h : RM base w rg I B L z3 z4 z5 z6 v q) (hF : Fits w q l) (hp : p < q.length) (hz : q[p].lk = 0 ∧ q[p].op = 0) (hlen : q.length ≤ 100000) :
    Calls Tryz.prog 211 #[.pointer (some ⟨rg, 0, none⟩), .int .i64 (p : Int)] w fun e w' => e = .returned (.tuple #[]) ∧ RS base w' rg I B L (l.take p ++ l.drop (p + 1)) ∧ Keeps base DT w w' := by
  obtain ⟨g, N, cap, rfl, hN, hpN, hNc, hcm, hbg, hgr, hgl, hrl, hgf, hrf, c0, -, -, c7, -, -, e2, e3, -⟩ := h.opened hp
  rw [hz.1] at e2
  rw [hz.2] at e3
  obtain ⟨X, hmk, hmo⟩ := Own.make_room (t := 110) Tryz.underlying110 info_ino N (N : Int) rfl (by omega) (by omega)
  obtain ⟨ad, hlo, had1, had2⟩ := Own.cut_lo (t := 110) Tryz.underlying110 elem_ino info_ino g 0 N cap (p + 1) ((p : Int) + 1) (by omega) (by omega) hNc
  have hhi := Own.cut_hi (t := 110) Tryz.underlying110 elem_ino info_ino (some ⟨g, 0, none⟩) N cap p (by omega) hNc (.inr ⟨_, _, rfl⟩)
  have hwr : IntKind.i64.wrap ((p : Int) + 1) = (p : Int) + 1 := IntWalk.i64_in _ (by omega)
  have hi3 : (p : Int) + 1 ≤ (N : Int) := by omega
  have H := W_hid h
  have HF := W_hid hF
  have hrow : Hid (w.ownsRow base 131 7 (.slice (some ⟨g, 0, none⟩) N cap) N (rcl q)) := W_hid (by have := h.row; rw [hN] at this; exact this)
  have A1 : Hid ((w.alloc X).drew.ownsRow w.heap.size 131 7 (.slice (some ⟨w.heap.size, 0, none⟩) 0 N) 0 []) := W_hid (hmo w w.heap.size (Nat.le_refl _))
  have S1 := W_hid ((Own.src_take hrow.out rfl p (by omega)).keep (((Below.refl _ _).alloc (Nat.le_refl _) X).drew))
  have S2 := W_hid ((Own.src_drop hrow.out (p + 1) (by omega) ad (cap - (p + 1)) (by simpa using had2)).keep (((Below.refl _ _).alloc (Nat.le_refl _) X).drew))
  have hone1 : Hid (∀ u ∈ (rcl q).take (p * 7), u.oneCell' = true) := W_hid (fun u hu => hF.one u (List.mem_of_mem_take hu))
  have hone2 : Hid (∀ u ∈ (rcl q).drop ((p + 1) * 7), u.oneCell' = true) := W_hid (fun u hu => hF.one u (List.mem_of_mem_drop hu))
  have hcut : Hid ([] ++ (rcl q).take (p * 7) ++ (rcl q).drop ((p + 1) * 7) = rcl (q.take p ++ q.drop (p + 1)) ∧ 0 + p + (N - (p + 1)) = (q.take p ++ q.drop (p + 1)).length) := W_hid ⟨by rw [rcl_take, rcl_drop, rcl_app]; rfl, by rw [List.length_append, List.length_take, List.length_drop, hN]; omega⟩
  have hend := W_hid (fun (w3 : World) (v3 : Value) (hb : Below w.heap.size w w3) (ho : w3.ownsRow w.heap.size 131 7 v3 (q.take p ++ q.drop (p + 1)).length (rcl (q.take p ++ q.drop (p + 1)))) => h.newRow hb ho)
  obtain ⟨adb, ado, ads⟩ := ad
  simp only at had1
  obtain rfl := had1.symm
  rw [hN] at hlen
  have xa : ∀ ob, (w.alloc ob).cell? ⟨rg, 7, none⟩ = some (.slice (some ⟨g, 0, none⟩) N cap) := fun ob => (h.box.alloc ob).cell rfl
  replace hN := W_hid hN
  replace hrow := W_hid hrow.out
  have hbl1 : Hid (g < w.heap.size) := W_hid hgl
  have hgl1 : Hid (rg < w.heap.size) := W_hid hrl
  clear h hF hz had2 hmo hp c0
  go_enter Tryz.func211, Tryz.ntmps211
  go_wp2_with fail
  go_region_law (first
    | (refine Own.step_app rfl (.tmp 32) (.tmp 38) 110 rfl Tryz.underlying110 info_ino (.slice (some ⟨w.heap.size, 0, none⟩) 0 N) (.slice (some ⟨g, 0, none⟩) p cap) rfl rfl A1.out (by simp) S1.out hone1.out (by unfold maxLen; omega) (by omega) ?_
       intro v2 w2 ho2 hg2 hob2
       have A2 := W_hid ho2
       have S3 := W_hid (Own.Src.grown S2.out hg2 (fun ad n c e _ => by simp only [Value.slice.injEq, Option.some.injEq] at e; have := hbl1.out; obtain ⟨rfl, -, -⟩ := e; simp [Value.ownBlock]; omega))
       have x2b : w2.cell? ⟨rg, 7, none⟩ = some (.slice (some ⟨g, 0, none⟩) N cap) := Own.cellg hg2 (xa X) (by have := hgl1.out; simp [Value.ownBlock]; omega)
       have B2 := W_hid ((((Below.refl w.heap.size w).alloc (Nat.le_refl _) X).drew).grown hg2 (by simp) (fun j hj => Own.ge A1.out j hj))
       clear ho2 hg2 hob2)
    | (refine Own.step_app rfl (.tmp 39) (.tmp 46) 110 rfl Tryz.underlying110 info_ino v2 (.slice (some ⟨g, ado, ads⟩) (N - (p + 1)) (cap - (p + 1))) rfl rfl A2.out B2.out.size S3.out hone2.out (by unfold maxLen; omega) (by omega) ?_
       intro v3 w3 ho3 hg3 hob3
       obtain ⟨a3, c3, rfl⟩ := Own.form ho3
       have B3 := W_hid (B2.out.grown hg3 B2.out.size (fun k h => Own.ge A2.out k h))
       have A3 := W_hid ho3
       have bx3 := H.out.box.below B3.out hgl1.out
       have x3b := bx3.cell (j := 7) rfl
       have f3b := bx3.fz
       clear ho3 hg3 hob3 bx3))
  all_goals
    go_end0
    have ho3 := A3.out
    have e2 := hcut.out.2
    rw [hcut.out.1] at ho3
    simp only [Nat.zero_add] at ho3 e2
    rw [e2] at ho3
    rw [e2]
    obtain ⟨q1, q2⟩ := hend.out w3 _ B3.out ho3
    exact ⟨rfl, ⟨_, _, _, _, _, _, q1, ((HF.out.take p).app (HF.out.drop (p + 1))).keeps q2 (by simp [DT])⟩, q2⟩
end
end IN
namespace IN
section
variable {base : Nat} {rg : Nat} {I B L k : Nat} {S : Int → Option Nd} {z3 z4 z5 z6 : Int} {v : Value} {q : List RE}
theorem rat_none {w : World} {n : Int} (hf : Fine I L B k S) (hI : I ≤ 4096) (hS : S n = none) (h : RM base w rg I B L z3 z4 z5 z6 v q) (hF : Fits w q (lst S I)) :
    Calls Tryz.prog 185 #[.pointer (some ⟨rg, 0, none⟩), .int .i64 n] w fun e w' => e = .returned (.int .i64 (-1)) ∧ w = w' := by
  have hl := hF.len
  have h1 := lst_len S I
  have := rat_any n h q.length (Nat.le_refl _) (fun j hj _ => by
    have e := hF.at_ j hj (by omega)
    rw [e.n]
    exact pl_none hf hS j (by omega)) (fun hj => absurd hj (Nat.lt_irrefl _)) (by omega)
  rw [if_neg (Nat.lt_irrefl _)] at this
  exact this
theorem rat_some {w : World} {n : Int} {p : Nat} (hI : I ≤ 4096) (hp : p < (lst S I).length) (hat : ((lst S I)[p].1 : Int) = n) (hbef : ∀ j (hj : j < (lst S I).length), j < p → ((lst S I)[j].1 : Int) ≠ n) (h : RM base w rg I B L z3 z4 z5 z6 v q) (hF : Fits w q (lst S I)) :
    Calls Tryz.prog 185 #[.pointer (some ⟨rg, 0, none⟩), .int .i64 n] w fun e w' => e = .returned (.int .i64 (p : Int)) ∧ w = w' := by
  have hl := hF.len
  have h1 := lst_len S I
  have := rat_any n h p (by omega) (fun j hj hjp => by
    have e := hF.at_ j hj (by omega)
    rw [e.n]
    exact hbef j (by omega) hjp) (fun hj => by
    have e := hF.at_ p hj hp
    rw [e.n]
    exact hat) (by omega)
  rw [if_pos (by omega)] at this
  exact this
theorem RM.fin {w : World} {l : List (Nat × Nd)} {g N cap : Nat} (h : RM base w rg I B L z3 z4 z5 z6 (.slice (some ⟨g, 0, none⟩) N cap) q) (hN : q.length = N) (hF : Fits w q l) {i : Nat} (hi : i < q.length) (m : Nat) (u : Value) (hm : m < 7) (x : RE) (hx : (rrow q[i]).set m u = rrow x) (y : Nat × Nd) (hE : EF w x y) :
    RS base (w.setCell ⟨g, i * 7 + m, none⟩ u) rg I B L (l.set i y) ∧ Keeps base DT w (w.setCell ⟨g, i * 7 + m, none⟩ u) := by
  obtain ⟨h1, h2⟩ := h.set hN hi m u hm x hx
  exact ⟨⟨_, _, _, _, _, _, h1, (hF.set i hE).keeps h2 (by simp [DT])⟩, h2⟩
theorem EF.drewN {w : World} {x : RE} {y : Nat × Nd} (h : EF w x y) (n : Nat) : EF (w.drewN n) x y := h.move fun _ _ _ => rfl
theorem rgone_set {w : World} {n : Int} {d d' : Nd} {p m : Nat} (hI : I ≤ 4096) (hS : S n = some d) (hp : p < (lst S I).length) (hset : ∀ d', lst (upd S n (some d')) I = (lst S I).set p (m, d')) (hdel : lst (upd S n none) I = (lst S I).take p ++ (lst S I).drop (p + 1))
    {g N cap : Nat} (h : RM base w rg I B L z3 z4 z5 z6 (.slice (some ⟨g, 0, none⟩) N cap) q) (hN : q.length = N) (hF : Fits w q (lst S I)) (mm : Nat) (u : Value) (hm : mm < 7) (x : RE) (hpq : p < q.length) (hx : (rrow q[p]).set mm u = rrow x) (hE : EF w x (m, d')) :
    Calls Tryz.prog 211 #[.pointer (some ⟨rg, 0, none⟩), .int .i64 (p : Int)] (w.setCell ⟨g, p * 7 + mm, none⟩ u) fun e w' => e = .returned (.tuple #[]) ∧ RS base w' rg I B L (lst (gone (upd S n (some d')) n) I) ∧ Keeps base DT w w' := by
  have hl := hF.len
  have h1 := lst_len S I
  obtain ⟨k1, k2⟩ := h.set hN hpq mm u hm x hx
  have f1 := (hF.set p hE).keeps k2 (by simp [DT])
  have hp' : p < (q.set p x).length := by rw [List.length_set]; exact hpq
  have ex : (q.set p x)[p] = x := by simp
  by_cases hz : d'.links = 0 ∧ d'.opens = 0
  · have e : gone (upd S n (some d')) n = upd S n none := by
      unfold gone; rw [upd_at]; simp only; rw [if_pos hz, upd_upd]
    rw [e, hdel]
    refine (rgone_yes p k1 f1 hp' (by rw [ex]; exact ⟨hE.lk.trans hz.1, hE.op.trans hz.2⟩) (by rw [List.length_set]; omega)).mono ?_
    rintro e w' ⟨rfl, r1, r2⟩
    rw [List.take_set_of_le (Nat.le_refl p), List.drop_set_of_lt (Nat.lt_succ_self p)] at r1
    exact ⟨rfl, r1, k2.trans r2⟩
  · have e : gone (upd S n (some d')) n = upd S n (some d') := by
      unfold gone; rw [upd_at]; simp only; rw [if_neg hz]
    rw [e, hset]
    refine (rgone_no p k1 hp' (by rw [ex]; exact fun hh => hz ⟨hE.lk.symm.trans hh.1, hE.op.symm.trans hh.2⟩)).mono ?_
    rintro e w' ⟨rfl, rfl⟩
    exact ⟨rfl, ⟨_, _, _, _, _, _, k1, f1⟩, k2⟩
set_option maxRecDepth 100000 in
set_option maxHeartbeats 8000000 in
theorem rLink_any (n : Int) (w : World) (hf : Fine I L B k S) (hI : I ≤ 4096) (hL : L ≤ 32768) (h : RS base w rg I B L (lst S I)) :
    Calls Tryz.prog 129 #[.pointer (some ⟨rg, 0, none⟩), .int .i64 n] w (ROut base rg I B L w (lkR L S n) (lst (lkS L S n) I)) := by
  obtain ⟨z3, z4, z5, z6, v, q, hM, hF⟩ := h
  cases hS : S n with
  | none =>
    have e1 : lkR L S n = 11 := by simp [lkR, askR, hS]
    have e2 : lkS L S n = S := by simp [lkS, hS]
    rw [e1, e2]
    have cA := W_hid (rat_none hf hI hS hM hF)
    have H := W_hid hM
    have HF := W_hid hF
    clear hM hF e1 e2 hS
    go_enter Tryz.func129, Tryz.ntmps129
    go_wp2_with fail
    refine cA.out.mono ?_
    rintro e w1 ⟨rfl, rfl⟩
    go_wp2_with fail
    go_ret
    exact ⟨rfl, ⟨_, _, _, _, _, _, H.out, HF.out⟩, Keeps.refl _ _ _⟩
  | some d =>
    obtain ⟨p, m, hnm, hm1, hmI, hp, hat, hbef, hset, hdel⟩ := pl_some hf hS
    have hg := hf.good _ d hS
    have hpq : p < q.length := by rw [hF.len]; exact hp
    have hE := hF.at_ p hpq hp
    rw [hat hp] at hE
    have cA := W_hid (rat_some (n := n) hI hp (by rw [hat hp]; exact hnm.symm) hbef hM hF)
    obtain ⟨g, N, cap, rfl, hN, hpN, hNc, hcm, hbg, hgr, hgl, hrl, hgf, hrf, c0, c1, c2, c7, x0, x1, x2, x3, x4, x5, x6⟩ := hM.opened hpq
    rw [hE.kd] at x1
    rw [hE.lk] at x2
    rw [hE.op] at x3
    simp only at x1 x2 x3
    have H := W_hid hM
    have HF := W_hid hF
    have HE := W_hid hE
    have HN := W_hid hN
    have HG := W_hid hg
    have HS := W_hid hS
    replace hpq := W_hid hpq
    replace hset := W_hid hset
    replace hdel := W_hid hdel
    replace hp := W_hid hp
    replace hnm := W_hid hnm
    have hk0 := hg.opens
    have hk1 := hg.links
    clear hM hF hE hN hg hat hbef
    by_cases hl : d.links < (L : Int)
    · have e1 : lkR L S n = 0 := by simp [lkR, askR, HS.out, hl]
      have e2 : lkS L S n = upd S n (some { d with links := d.links + 1 }) := by simp [lkS, HS.out, hl]
      rw [e1, e2, hset.out]
      have hw : IntKind.i64.wrap (d.links + 1) = d.links + 1 := IntWalk.i64_in _ (by omega)
      clear e1 e2
      go_enter Tryz.func129, Tryz.ntmps129
      go_wp2_with fail
      refine cA.out.mono ?_
      rintro e w1 ⟨rfl, rfl⟩
      go_wp2_with fail
      go_quiet (fail)
      go_wp2_with fail
      go_ret
      have E : EF w { q[p]'hpq.out with lk := d.links + 1 } (m, { d with links := d.links + 1 }) := ⟨HE.out.n, HE.out.kd, rfl, HE.out.op, HE.out.sz, HE.out.st, HE.out.v⟩
      have P := RM.fin (H.out.drewN nq) HN.out (HF.out.drewN nq) hpq.out 2 (.int .i64 (d.links + 1)) (by decide) { q[p]'hpq.out with lk := d.links + 1 } rfl _ (E.drewN nq)
      exact ⟨rfl, P.1, ((Keeps.refl _ _ _).drew nq).trans P.2⟩
    · have e1 : lkR L S n = 18 := by simp [lkR, askR, HS.out, hl]
      have e2 : lkS L S n = S := by simp [lkS, HS.out, hl]
      rw [e1, e2]
      clear e1 e2
      go_enter Tryz.func129, Tryz.ntmps129
      go_wp2_with fail
      refine cA.out.mono ?_
      rintro e w1 ⟨rfl, rfl⟩
      go_wp2_with fail
      go_quiet (fail)
      go_wp2_with fail
      go_ret
      exact ⟨rfl, ⟨_, _, _, _, _, _, H.out.drewN nq, HF.out.drewN nq⟩, (Keeps.refl _ _ _).drew nq⟩
set_option maxRecDepth 100000 in
set_option maxHeartbeats 8000000 in
theorem rUnlink_any (n : Int) (w : World) (hf : Fine I L B k S) (hI : I ≤ 4096) (hL : L ≤ 32768) (hk : k < 1000000) (h : RS base w rg I B L (lst S I)) :
    Calls Tryz.prog 186 #[.pointer (some ⟨rg, 0, none⟩), .int .i64 n] w (ROut base rg I B L w (ulR S n) (lst (ulS S n) I)) := by
  obtain ⟨z3, z4, z5, z6, v, q, hM, hF⟩ := h
  cases hS : S n with
  | none =>
    have e1 : ulR S n = 11 := by simp [ulR, askR, hS]
    have e2 : ulS S n = S := by simp [ulS, hS]
    rw [e1, e2]
    have cA := W_hid (rat_none hf hI hS hM hF)
    have H := W_hid hM
    have HF := W_hid hF
    clear hM hF e1 e2 hS
    go_enter Tryz.func186, Tryz.ntmps186
    go_wp2_with fail
    refine cA.out.mono ?_
    rintro e w1 ⟨rfl, rfl⟩
    go_wp2_with fail
    go_ret
    exact ⟨rfl, ⟨_, _, _, _, _, _, H.out, HF.out⟩, Keeps.refl _ _ _⟩
  | some d =>
    obtain ⟨p, m, hnm, hm1, hmI, hp, hat, hbef, hset, hdel⟩ := pl_some hf hS
    have hg := hf.good _ d hS
    have hpq : p < q.length := by rw [hF.len]; exact hp
    have hE := hF.at_ p hpq hp
    rw [hat hp] at hE
    have cA := W_hid (rat_some (n := n) hI hp (by rw [hat hp]; exact hnm.symm) hbef hM hF)
    obtain ⟨g, N, cap, rfl, hN, hpN, hNc, hcm, hbg, hgr, hgl, hrl, hgf, hrf, c0, c1, c2, c7, x0, x1, x2, x3, x4, x5, x6⟩ := hM.opened hpq
    rw [hE.kd] at x1
    rw [hE.lk] at x2
    rw [hE.op] at x3
    simp only at x1 x2 x3
    have H := W_hid hM
    have HF := W_hid hF
    have HE := W_hid hE
    have HN := W_hid hN
    have HG := W_hid hg
    have HS := W_hid hS
    replace hpq := W_hid hpq
    replace hset := W_hid hset
    replace hdel := W_hid hdel
    replace hp := W_hid hp
    replace hnm := W_hid hnm
    have hk0 := hg.opens
    have hk1 := hg.links
    clear hM hF hE hN hg hat hbef
    by_cases hl : 0 < d.links
    · have e1 : ulR S n = 0 := by simp [ulR, askR, HS.out, hl]
      have e2 : ulS S n = gone (upd S n (some { d with links := d.links - 1 })) n := by simp [ulS, HS.out, hl]
      rw [e1, e2]
      have hw : IntKind.i64.wrap (d.links - 1) = d.links - 1 := IntWalk.i64_in _ (by omega)
      have E : EF w { q[p]'hpq.out with lk := d.links - 1 } (m, { d with links := d.links - 1 }) := ⟨HE.out.n, HE.out.kd, rfl, HE.out.op, HE.out.sz, HE.out.st, HE.out.v⟩
      have cG := W_hid (rgone_set hI HS.out hp.out hset.out hdel.out H.out HN.out HF.out 2 (.int .i64 (d.links - 1)) (by decide) { q[p]'hpq.out with lk := d.links - 1 } hpq.out rfl E)
      clear E
      have hne : ¬ d.links = 0 := by omega
      clear e1 e2
      go_enter Tryz.func186, Tryz.ntmps186
      go_wp2_with fail
      refine cA.out.mono ?_
      rintro e w1 ⟨rfl, rfl⟩
      go_wp2_with fail
      refine cG.out.mono ?_
      rintro e w2 ⟨rfl, r1, r2⟩
      replace r1 := W_hid r1
      replace r2 := W_hid r2
      go_wp2_with fail
      go_ret
      exact ⟨rfl, r1.out, r2.out⟩
    · have e1 : ulR S n = 2 := by simp [ulR, askR, HS.out, hl]
      have e2 : ulS S n = S := by simp [ulS, HS.out, hl]
      rw [e1, e2]
      have hne : d.links = 0 := by omega
      rw [hne] at x2
      replace hne := W_hid hne
      clear e1 e2
      go_enter Tryz.func186, Tryz.ntmps186
      go_wp2_with fail
      refine cA.out.mono ?_
      rintro e w1 ⟨rfl, rfl⟩
      go_wp2_with fail
      go_ret
      exact ⟨rfl, ⟨_, _, _, _, _, _, H.out, HF.out⟩, Keeps.refl _ _ _⟩
set_option maxRecDepth 100000 in
set_option maxHeartbeats 8000000 in
theorem rRight_yes (a b c d e f g : Int) (w : World) (hr : Right a b c) :
    Calls Tryz.prog 15 #[cap7 a b c d e f g] w fun r w' => r = .returned (.bool true) ∧ Below w.heap.size w w' := by
  unfold cap7
  obtain ⟨h1, h2, h3, h4, h5, h6⟩ := hr
  go_enter Tryz.func15, Tryz.ntmps15
  go_wp2_with fail
  go_ret
  exact ⟨rfl, (Below.refl _ w).alloc (Nat.le_refl _) _⟩
set_option maxRecDepth 100000 in
set_option maxHeartbeats 8000000 in
theorem rNew_yes (a b c d e f g : Int) (w : World) (hr : Right a b c) :
    Calls Tryz.prog 17 #[cap7 a b c d e f g] w fun r w' => ∃ rg, r = .returned (.tuple #[.pointer (some ⟨rg, 0, none⟩), .int .i64 0]) ∧ RS w.heap.size w' rg a b c [] ∧ Below w.heap.size w w' := by
  have cR := W_hid (fun w => rRight_yes a b c d e f g w hr)
  clear hr
  unfold cap7 at cR ⊢
  go_enter Tryz.func17, Tryz.ntmps17
  go_wp2_with fail
  refine (cR.out _).mono ?_
  rintro r w1 ⟨rfl, b1⟩
  have hx := (Blk.new w 25 [.int .i64 a, .int .i64 b, .int .i64 c, .int .i64 d, .int .i64 e, .int .i64 f, .int .i64 g] rfl).keep b1
  have qf := hx.fz
  have q0 := hx.cell (j := 0) rfl
  have q1 := hx.cell (j := 1) rfl
  have q2 := hx.cell (j := 2) rfl
  have q3 := hx.cell (j := 3) rfl
  have q4 := hx.cell (j := 4) rfl
  have q5 := hx.cell (j := 5) rfl
  have q6 := hx.cell (j := 6) rfl
  have b2 := ((Below.refl w.heap.size w).alloc (Nat.le_refl _) (.cells #[.int .i64 a, .int .i64 b, .int .i64 c, .int .i64 d, .int .i64 e, .int .i64 f, .int .i64 g] 25)).trans (b1.mono (by simp))
  have hs := b2.size
  have b2 := W_hid b2
  clear hx b1
  go_wp2_with fail
  go_ret2
  refine ⟨w1.heap.size, rfl, ⟨d, e, f, g, .slice none 0 0, [], ⟨Blk.new w1 112 [.int .i64 a, .int .i64 b, .int .i64 c, .int .i64 d, .int .i64 e, .int .i64 f, .int .i64 g, .slice none 0 0] rfl, World.ownsRow_nil _ _ _ _, hs⟩, trivial⟩, b2.out.alloc hs _⟩
end
end IN
namespace IN
section
variable {base : Nat} {rg : Nat} {I B L k : Nat} {S : Int → Option Nd} {z3 z4 z5 z6 : Int} {v : Value} {q : List RE}
theorem drew_keep {w : World} (n : Nat) : Below w.heap.size w (w.drewN n) := ⟨rfl, rfl, rfl, Nat.le_refl _, fun _ _ => rfl⟩
theorem cellkept {w w' : World} {p : Addr} {v : Value} (hb : Below w.heap.size w w') (h : w.cell? p = some v) : w'.cell? p = some v := by rw [hb.cell (cell_lt h)]; exact h
set_option maxRecDepth 100000 in
set_option maxHeartbeats 8000000 in
theorem rMake_no (kd : Int) (w : World) (hI : I ≤ 4096) (h : RS base w rg I B L (lst S I)) (r : Int) (hr : mkR I S kd = r) (hr0 : r ≠ 0) :
    Calls Tryz.prog 60 #[.pointer (some ⟨rg, 0, none⟩), .int .i64 kd] w fun e w' => e = .returned (.tuple #[.int .i64 0, .int .i64 r]) ∧ Below w.heap.size w w' := by
  obtain ⟨z3, z4, z5, z6, v, q, hM, hF⟩ := h
  unfold mkR at hr
  by_cases hkd : kd = 1 ∨ kd = 2
  · rw [if_pos hkd] at hr
    by_cases hl : (lst S I).length < I
    · rw [if_pos hl] at hr; exact absurd hr.symm hr0
    rw [if_neg hl] at hr
    subst hr
    have hlen := hF.len
    obtain ⟨ao, cap, hv⟩ := Own.form hM.row
    subst hv
    have c0 := hM.box.cell (j := 0) rfl
    have c7 := hM.box.cell (j := 7) rfl
    obtain ⟨N, hN⟩ : ∃ N, q.length = N := ⟨_, rfl⟩
    rw [hN] at c7 hlen
    have hNI : (I : Int) ≤ (N : Int) := by omega
    clear hM hF hN hl hr0 hlen
    rcases hkd with rfl | rfl <;>
    · go_enter Tryz.func60, Tryz.ntmps60
      go_wp2_with fail
      go_quiet (fail)
      go_wp2_with fail
      go_ret2
      exact ⟨rfl, drew_keep _⟩
  · rw [if_neg hkd] at hr
    subst hr
    have h1 : ¬ kd = 1 := fun e => hkd (.inl e)
    have h2 : ¬ kd = 2 := fun e => hkd (.inr e)
    have h3 : (kd != 1) = true := by simp [h1]
    have h4 : (kd != 2) = true := by simp [h2]
    replace h1 := W_hid h1
    replace h2 := W_hid h2
    clear hkd hM hF hr0
    go_enter Tryz.func60, Tryz.ntmps60
    go_wp2_with fail
    go_ret2
    exact ⟨rfl, Below.refl _ _⟩
set_option maxRecDepth 100000 in
set_option maxHeartbeats 16000000 in
theorem rMake_yes (kd : Int) (n : Nat) (w : World) (hI : I ≤ 4096) (h : RS base w rg I B L (lst S I)) (hr : mkR I S kd = 0) (hlow : Low S n) (hnI : n ≤ I) :
    Calls Tryz.prog 60 #[.pointer (some ⟨rg, 0, none⟩), .int .i64 kd] w fun e w' => e = .returned (.tuple #[.int .i64 (n : Int), .int .i64 0]) ∧ RS base w' rg I B L (lst (upd S (n : Int) (some (newNd kd))) I) ∧ Keeps base DT w w' := by
  obtain ⟨z3, z4, z5, z6, v, q, hM, hF⟩ := h
  have hkd : kd = 1 ∨ kd = 2 := by
    unfold mkR at hr
    by_cases e : kd = 1 ∨ kd = 2
    · exact e
    · rw [if_neg e] at hr; cases hr
  have hl : (lst S I).length < I := by
    unfold mkR at hr
    rw [if_pos hkd] at hr
    by_cases e : (lst S I).length < I
    · exact e
    · rw [if_neg e] at hr; cases hr
  have hlen := hF.len
  have hlo := low_lo hlow
  have hsp := split S n I hlow.1 hnI
  rw [hlow.2.1] at hsp
  simp only [Option.map_none, Option.toList_none, List.append_nil] at hsp
  obtain ⟨P, hP⟩ : ∃ P, (lo S n).length = P := ⟨_, rfl⟩
  have hnP : n = P + 1 := by have := hlo.1; have := hlow.1; omega
  have hPl : P ≤ (lst S I).length := by rw [hsp, List.length_append]; omega
  have hnew := pl_new (d := newNd kd) hlow.1 hnI hlow.2.1
  rw [hP] at hnew
  rw [hnew]
  have hel : ∀ j (hj : j < q.length), (j < P → q[j].n = (j : Int) + 1) ∧ (j = P → ¬ q[j].n = (j : Int) + 1) := by
    intro j hj
    have e := hF.at_ j hj (by omega)
    have hrise := lst_rise S I
    refine ⟨fun hjP => ?_, fun hjP => ?_⟩
    · rw [e.n]
      obtain ⟨y, hy⟩ : ∃ y, (lst S I)[j]'(by omega) = y := ⟨_, rfl⟩
      have h3 : (lst S I)[j]? = some y := by rw [List.getElem?_eq_getElem (by omega), hy]
      rw [hsp, List.getElem?_append_left (by omega)] at h3
      have h4 := hlo.2 j _ h3
      rw [hy]
      omega
    · rw [e.n]
      intro h3
      have h4 := (mem_lst.1 (List.getElem_mem (by omega : j < (lst S I).length))).2.2
      have h5 : ((lst S I)[j].1 : Int) = (n : Int) := by omega
      rw [h5, hlow.2.1] at h4
      cases h4
  obtain ⟨ao, cap, hv⟩ := Own.form hM.row
  subst hv
  obtain ⟨N, hN⟩ : ∃ N, q.length = N := ⟨_, rfl⟩
  have hNI : (N : Int) < (I : Int) := by omega
  have hPN : P ≤ N := by omega
  have hN4 : N ≤ 4096 := by omega
  have hcaps : N ≤ cap ∧ cap ≤ 9223372036854775807 ∧ (ao = none ∨ ∃ b o, ao = some ⟨b, o, none⟩) ∧ (ao = none → cap = 0) := by
    rcases hM.row.2 with ⟨h1, h2⟩ | ⟨g, cap', cur, h1, h2, h3, h4, h5, h6⟩
    · simp only [Value.slice.injEq] at h1
      exact ⟨by omega, by omega, .inl h1.1, fun _ => h1.2.2⟩
    · simp only [Value.slice.injEq] at h1
      obtain ⟨rfl, e1, rfl⟩ := h1
      exact ⟨by omega, by unfold maxLen at h5; omega, .inr ⟨_, _, rfl⟩, fun e => by cases e⟩
  obtain ⟨hc1, hc2, hc3, hc4⟩ := hcaps
  have c0 := hM.box.cell (j := 0) rfl
  have c7 := hM.box.cell (j := 7) rfl
  rw [hN] at c7
  have H := W_hid hM
  have hbase := W_hid hM.low
  have HF := W_hid hF
  have hel := W_hid hel
  have hN := W_hid hN
  have hnP := W_hid hnP
  clear hM hF hl hlen hlo hsp hnew hr hlow hP hPl
  obtain ⟨X, hmk, hmo⟩ := Own.make_room (t := 110) Tryz.underlying110 info_ino (N + 1) ((N : Int) + 1) (by omega) (by omega) (by omega)
  have hhi := Own.cut_hi (t := 110) Tryz.underlying110 elem_ino info_ino ao N cap P hPN hc1 hc3
  have hwN : IntKind.i64.wrap ((N : Int) + 1) = (N : Int) + 1 := IntWalk.i64_in _ (by omega)
  have hwP : IntKind.i64.wrap ((P : Int) + 1) = (P : Int) + 1 := IntWalk.i64_in _ (by omega)
  have hPN' : (P : Int) ≤ (N : Int) := by omega
  have hmo := W_hid hmo
  have hc3 := W_hid hc3
  have hc4 := W_hid hc4
  have hhi := W_hid hhi
  rcases hkd with rfl | rfl
  · go_enter Tryz.func60, Tryz.ntmps60
    go_wp2_with fail
    go_quiet (fail)
    go_wp2_with fail
    have H1 := W_hid (H.out.drewN nq)
    have HF1 := W_hid (HF.out.drewN nq)
    have hb1 := W_hid (drew_keep (w := w) nq)
    have d0 := H1.out.box.cell (j := 0) rfl
    have d7 := H1.out.box.cell (j := 7) rfl
    rw [hN.out] at d7
    obtain ⟨w1, hw1⟩ : ∃ w1, w.drewN nq = w1 := ⟨_, rfl⟩
    rw [hw1] at H1 HF1 hb1 d0 d7 ⊢
    clear hw1 c0 c7 H HF
    go_loopw [6] (fun i wr => ∃ j : Nat, j ≤ P ∧ i = .int .i64 (j : Int) ∧ w1 = wr) (fun i _ => P - (intOf i).toNat)
    case atStart => exact ⟨0, Nat.zero_le _, rfl, rfl⟩
    case round =>
      obtain ⟨j, hj, rfl, hwr⟩ := hrel
      subst hwr
      by_cases hjP : j < P
      · have hjq : j < q.length := by rw [hN.out]; omega
        obtain ⟨g, N', cap', hv, hN', -, -, -, -, -, -, -, -, -, -, -, -, -, e0, -⟩ := H1.out.opened hjq
        rw [hN.out] at hv
        simp only [Value.slice.injEq] at hv
        obtain ⟨rfl, -, -⟩ := hv
        rw [(hel.out j hjq).1 hjP] at e0
        have hjN : (j : Int) < (N : Int) := by omega
        have hwj : IntKind.i64.wrap ((j : Int) + 1) = (j : Int) + 1 := IntWalk.i64_in _ (by omega)
        clear hN' N' hjq
        go_wp2_with fail
        go_roundw
        case rel => exact ⟨j + 1, by omega, by go_num, by first | trivial | rfl⟩
        case measure => simp [intOf]; omega
      · obtain rfl : j = P := by omega
        have hcase : Hid (j = N) ∨ (j < N ∧ ∃ g a, ao = some ⟨g, 0, none⟩ ∧ w1.cell? ⟨g, j * 7, none⟩ = some (.int .i64 a) ∧ ¬ a = (j : Int) + 1) := by
          rcases Nat.lt_or_ge j N with hlt | hge
          · right
            have hjq : j < q.length := by rw [hN.out]; omega
            obtain ⟨g, N', cap', hv, hN', -, -, -, -, -, -, -, -, -, -, -, -, -, e0, -⟩ := H1.out.opened hjq
            rw [hN.out] at hv
            simp only [Value.slice.injEq] at hv
            exact ⟨hlt, g, _, hv.1, e0, (hel.out j hjq).2 rfl⟩
          · left; exact W_hid (by omega)
        have hS1 := W_hid (Own.src_take (v := .slice ao N cap) (by have := H1.out.row; rw [hN.out] at this; exact this) rfl j hPN)
        have hone1 : Hid (∀ u ∈ (rcl q).take (j * 7), u.oneCell' = true) := W_hid (fun u hu => HF1.out.one u (List.mem_of_mem_take hu))
        have hone3 : Hid (∀ u ∈ (rcl q).drop (j * 7), u.oneCell' = true) := W_hid (fun u hu => HF1.out.one u (List.mem_of_mem_drop hu))
        obtain ⟨ad, hlo3, hsrc3⟩ : ∃ ad : Value, (∀ W : World, (Instr.slice 110 (.slice ao N cap) (some (.int .i64 (j : Int))) none none).run Tryz.prog W = .ok ad W) ∧ Hid (Own.Src w1 7 ad (N - j) ((rcl q).drop (j * 7)) ∧ ∀ aa n c, ad = .slice (some aa) n c → aa.block < w1.heap.size) := by
          rcases hc3.out with e | ⟨b, ob, e⟩
          · have e2 := hc4.out e
            obtain rfl : N = 0 := by omega
            subst e; subst e2
            obtain rfl : j = 0 := by omega
            refine ⟨.slice none 0 0, Own.cut_none (t := 110) Tryz.underlying110 elem_ino info_ino, W_hid ⟨.inl ⟨rfl, rfl, ?_⟩, fun aa n c e => by simp at e⟩⟩
            rw [Nat.zero_mul, List.drop_zero]
            exact List.eq_nil_of_length_eq_zero (by rw [rcl_len, hN.out])
          · subst e
            have hrow := H1.out.row
            rw [hN.out] at hrow
            obtain ⟨ad, hl1, hl2, hl3⟩ := Own.cut_lo (t := 110) Tryz.underlying110 elem_ino info_ino b ob N cap j (j : Int) rfl hPN hc1
            refine ⟨_, hl1, W_hid ⟨Own.src_drop hrow j hPN ad _ hl3, fun aa n c e => ?_⟩⟩
            simp only [Value.slice.injEq, Option.some.injEq] at e
            obtain ⟨rfl, -, -⟩ := e
            rw [hl2]
            rcases hrow.2 with ⟨e, _⟩ | ⟨g, cap', cur, e, _, hg, _⟩
            · simp at e
            · simp only [Value.slice.injEq, Option.some.injEq, Addr.mk.injEq] at e
              rw [e.1.1]
              exact lt_of_some hg
        have xa : ∀ ob, (w1.drew.alloc ob).cell? ⟨rg, 7, none⟩ = some (.slice ao N cap) := fun ob => cellkept (((Below.refl w1.heap.size w1).drew).alloc (Nat.le_refl _) ob) d7
        have A1 : Hid ((w1.drew.alloc X).ownsRow w1.heap.size 131 7 (.slice (some ⟨w1.heap.size, 0, none⟩) 0 (N + 1)) 0 []) := W_hid (hmo.out w1.drew w1.heap.size (Nat.le_refl _))
        have hrl := W_hid H1.out.box.lt
        have hbS := W_hid (((Below.refl w1.heap.size w1).drew).alloc (Nat.le_refl _) X)
        have hhi' := hhi.out
        rcases hcase with h1 | ⟨h1, g, a, rfl, e0, e1⟩
        · have hge : (N : Int) ≤ (j : Int) := by have := h1.out; omega
          go_wp2_with fail
          refine wp_region_held_drew (S := (fun w' => w'.cell? ⟨rg, 7, none⟩ = some (.slice ao N cap))) (by kernel_rfl) d7 (fun hHeld => ?_)
          refine wpAnyH_take (i := 0) (v := .pointer (some ⟨rg, 0, none⟩)) rfl (by kernel_rfl) (by kernel_rfl) (by kernel_rfl) (fun _ _ _ h => h) (Or.inl ⟨by rfl, fun w0 s1 => ?_⟩) hHeld ?_
          · go_simp
          try simp only [Act.put, List.setIfInBounds_toArray, List.set_cons_zero, List.set_cons_succ, List.getElem_toArray, List.getElem_cons_zero, List.getElem_cons_succ]
          refine wpAnyH_take (i := 1) (v := .pointer (some ⟨rg, 0, none⟩)) rfl (by kernel_rfl) (by kernel_rfl) (by kernel_rfl) (fun _ _ _ h => h) (Or.inl ⟨by rfl, fun w0 s1 => ?_⟩) hHeld ?_
          · go_simp
          try simp only [Act.put, List.setIfInBounds_toArray, List.set_cons_zero, List.set_cons_succ, List.getElem_toArray, List.getElem_cons_zero, List.getElem_cons_succ]
          refine wpAnyH_take (i := 2) (v := .pointer (some ⟨rg, 7, none⟩)) rfl (by kernel_rfl) (by kernel_rfl) (by kernel_rfl) (fun _ _ _ h => h) (Or.inl ⟨by rfl, fun w0 s1 => ?_⟩) hHeld ?_
          · go_simp
          try simp only [Act.put, List.setIfInBounds_toArray, List.set_cons_zero, List.set_cons_succ, List.getElem_toArray, List.getElem_cons_zero, List.getElem_cons_succ]
          refine wpAnyH_take (i := 3) (v := .slice ao N cap) rfl (by kernel_rfl) (by kernel_rfl) (by kernel_rfl) (fun _ _ _ h => h) (Or.inl ⟨by rfl, fun w0 s1 => ?_⟩) hHeld ?_
          · go_simp
          try simp only [Act.put, List.setIfInBounds_toArray, List.set_cons_zero, List.set_cons_succ, List.getElem_toArray, List.getElem_cons_zero, List.getElem_cons_succ]
          refine wpAnyH_take (i := 4) (v := .int .i64 (N : Int)) rfl (by kernel_rfl) (by kernel_rfl) (by kernel_rfl) (fun _ _ _ h => h) (Or.inl ⟨by rfl, fun w0 s1 => ?_⟩) hHeld ?_
          · go_simp
          try simp only [Act.put, List.setIfInBounds_toArray, List.set_cons_zero, List.set_cons_succ, List.getElem_toArray, List.getElem_cons_zero, List.getElem_cons_succ]
          refine wpAnyH_take (i := 5) (v := .int .i64 ((N : Int) + 1)) rfl (by kernel_rfl) (by kernel_rfl) (by kernel_rfl) (fun _ _ _ h => h) (Or.inl ⟨by rfl, fun w0 s1 => ?_⟩) hHeld ?_
          · go_simp
          try simp only [Act.put, List.setIfInBounds_toArray, List.set_cons_zero, List.set_cons_succ, List.getElem_toArray, List.getElem_cons_zero, List.getElem_cons_succ]
          refine wpAnyH_take (i := 7) (v := .pointer (some ⟨rg, 0, none⟩)) rfl (by kernel_rfl) (by kernel_rfl) (by kernel_rfl) (fun _ _ _ h => h) (Or.inl ⟨by rfl, fun w0 s1 => ?_⟩) hHeld ?_
          · go_simp
          try simp only [Act.put, List.setIfInBounds_toArray, List.set_cons_zero, List.set_cons_succ, List.getElem_toArray, List.getElem_cons_zero, List.getElem_cons_succ]
          refine wpAnyH_take (i := 8) (v := .pointer (some ⟨rg, 0, none⟩)) rfl (by kernel_rfl) (by kernel_rfl) (by kernel_rfl) (fun _ _ _ h => h) (Or.inl ⟨by rfl, fun w0 s1 => ?_⟩) hHeld ?_
          · go_simp
          try simp only [Act.put, List.setIfInBounds_toArray, List.set_cons_zero, List.set_cons_succ, List.getElem_toArray, List.getElem_cons_zero, List.getElem_cons_succ]
          refine wpAnyH_take (i := 9) (v := .pointer (some ⟨rg, 7, none⟩)) rfl (by kernel_rfl) (by kernel_rfl) (by kernel_rfl) (fun _ _ _ h => h) (Or.inl ⟨by rfl, fun w0 s1 => ?_⟩) hHeld ?_
          · go_simp
          try simp only [Act.put, List.setIfInBounds_toArray, List.set_cons_zero, List.set_cons_succ, List.getElem_toArray, List.getElem_cons_zero, List.getElem_cons_succ]
          refine wpAnyH_take (i := 10) (v := .slice ao N cap) rfl (by kernel_rfl) (by kernel_rfl) (by kernel_rfl) (fun _ _ _ h => h) (Or.inl ⟨by rfl, fun w0 s1 => ?_⟩) hHeld ?_
          · go_simp
          try simp only [Act.put, List.setIfInBounds_toArray, List.set_cons_zero, List.set_cons_succ, List.getElem_toArray, List.getElem_cons_zero, List.getElem_cons_succ]
          refine wpAnyH_take (i := 11) (v := .int .i64 (j : Int)) rfl (by kernel_rfl) (by kernel_rfl) (by kernel_rfl) (fun _ _ _ h => h) (Or.inl ⟨by rfl, fun w0 s1 => ?_⟩) hHeld ?_
          · go_simp
          try simp only [Act.put, List.setIfInBounds_toArray, List.set_cons_zero, List.set_cons_succ, List.getElem_toArray, List.getElem_cons_zero, List.getElem_cons_succ]
          refine wpAnyH_take (i := 12) (v := .slice ao j cap) rfl (by kernel_rfl) (by kernel_rfl) (by kernel_rfl) (fun _ _ _ h => h) (Or.inl ⟨by rfl, fun w0 s1 => ?_⟩) hHeld ?_
          · go_simp
          try simp only [Act.put, List.setIfInBounds_toArray, List.set_cons_zero, List.set_cons_succ, List.getElem_toArray, List.getElem_cons_zero, List.getElem_cons_succ]
          refine wpAnyH_ready (rs := [6]) (by kernel_rfl) (by simp) ?_
          refine AllReadyH.cons rfl (fun K hK => ?_) AllReadyH.nil
          go_simp
          refine hK.out _ _ (xa X) (fun hHeld1 => ?_)
          clear hK K
          try simp only [Act.put, List.setIfInBounds_toArray, List.set_cons_zero, List.set_cons_succ, List.getElem_toArray, List.getElem_cons_zero, List.getElem_cons_succ]
          refine wpAnyH_ready (rs := [13]) (by kernel_rfl) (by simp) ?_
          refine AllReadyH.cons rfl (fun K hK => ?_) AllReadyH.nil
          refine Own.step_app rfl (.tmp 54) (.tmp 60) 110 rfl Tryz.underlying110 info_ino (.slice (some ⟨w1.heap.size, 0, none⟩) 0 (N + 1)) (.slice ao j cap) rfl rfl A1.out (by simp) (hS1.out.keep hbS.out) hone1.out (by unfold maxLen; omega) (by omega) ?_
          intro v2 w2 ho2 hg2 hob2
          rw [Nat.zero_add] at ho2
          obtain ⟨a2, c2, rfl⟩ := Own.form ho2
          have A2 := W_hid ho2
          have B2 := W_hid (hbS.out.grown hg2 (by simp) (fun jj hj => Own.ge A1.out jj hj))
          have y2 := cellkept B2.out d7
          clear ho2 hg2 hob2
          refine hK.out _ _ y2 (fun hHeld2 => ?_)
          clear hK K
          try simp only [Act.put, List.setIfInBounds_toArray, List.set_cons_zero, List.set_cons_succ, List.getElem_toArray, List.getElem_cons_zero, List.getElem_cons_succ]
          refine wpAnyH_take (i := 14) (v := .slice a2 j c2) rfl (by kernel_rfl) (by kernel_rfl) (by kernel_rfl) (fun _ _ _ h => h) (Or.inl ⟨by rfl, fun w0 s1 => ?_⟩) hHeld2 ?_
          · go_simp
          try simp only [Act.put, List.setIfInBounds_toArray, List.set_cons_zero, List.set_cons_succ, List.getElem_toArray, List.getElem_cons_zero, List.getElem_cons_succ]
          refine wpAnyH_done (by kernel_rfl) ?_ _
          have hblk := Blk.new w2 131 (rrow ⟨(j : Int) + 1, 1, 1, 0, 0, 0, .slice none 0 0⟩) rfl
          have B2a := W_hid (B2.out.alloc B2.out.size (.cells #[.int .i64 ((j : Int) + 1), .int .i64 1, .int .i64 1, .int .i64 0, .int .i64 0, .int .i64 0, .slice none 0 0] 131))
          have A2a := W_hid (Own.below A2.out ((Below.refl w2.heap.size w2).alloc (Nat.le_refl _) (.cells #[.int .i64 ((j : Int) + 1), .int .i64 1, .int .i64 1, .int .i64 0, .int .i64 0, .int .i64 0, .slice none 0 0] 131)))
          have S2a : Hid (Own.Src (w2.alloc (.cells #[.int .i64 ((j : Int) + 1), .int .i64 1, .int .i64 1, .int .i64 0, .int .i64 0, .int .i64 0, .slice none 0 0] 131)) 7 (.slice (some ⟨w2.heap.size, 0, none⟩) 1 1) 1 (rrow ⟨(j : Int) + 1, 1, 1, 0, 0, 0, .slice none 0 0⟩)) := W_hid (.inr ⟨_, _, rfl, rfl, fun i u hi => by
            have := hblk.cell hi
            rw [Addr.add_lit, Nat.zero_add]
            exact this⟩)
          clear hblk
          go_wp2_with (first
            | (at_builtin; refine Own.wpList_app rfl (.tmp 62) (.tmp 68) 110 rfl Tryz.underlying110 info_ino (.slice a2 j c2) (.slice (some ⟨w2.heap.size, 0, none⟩) 1 1) rfl rfl A2a.out B2a.out.size S2a.out (rrow_one rfl) (by unfold maxLen; omega) (by omega) ?_; intro v3 w3 ho3 hg3 hob3; obtain ⟨a3, c3, rfl⟩ := Own.form ho3; have A3 := W_hid ho3; have B3 := W_hid (B2a.out.grown hg3 B2a.out.size (fun k h => Own.ge A2a.out k h)); have S3 := W_hid (hsrc3.out.1.keep B3.out); have y7 := cellkept B3.out d7; clear ho3 hg3 hob3)
            | (at_builtin; refine Own.wpList_app rfl (.tmp 71) (.tmp 77) 110 rfl Tryz.underlying110 info_ino (.slice a3 (j + 1) c3) ad rfl rfl A3.out B3.out.size S3.out hone3.out (by unfold maxLen; omega) (by omega) ?_; intro v4 w4 ho4 hg4 hob4; obtain ⟨a4, c4, rfl⟩ := Own.form ho4; have B4 := W_hid (B3.out.grown hg4 B3.out.size (fun k h => Own.ge A3.out k h)); have A4 := W_hid ho4; have f4 := (H1.out.box.below B4.out hrl.out).fz; have z7 := (H1.out.box.below B4.out hrl.out).cell (j := 7) rfl; clear ho4 hg4 hob4))
          go_wp2_with fail
          go_ret2
          obtain ⟨q1, q2⟩ := H1.out.newRow (q' := q.take j ++ (⟨(j : Int) + 1, 1, 1, 0, 0, 0, .slice none 0 0⟩ : RE) :: q.drop j) B4.out (by
            have e1 : (q.take j ++ (⟨(j : Int) + 1, 1, 1, 0, 0, 0, .slice none 0 0⟩ : RE) :: q.drop j).length = j + 1 + (N - j) := by
              rw [List.length_append, List.length_take, List.length_cons, List.length_drop, hN.out]; omega
            have e2 : rcl (q.take j ++ (⟨(j : Int) + 1, 1, 1, 0, 0, 0, .slice none 0 0⟩ : RE) :: q.drop j) = [] ++ (rcl q).take (j * 7) ++ rrow ⟨(j : Int) + 1, 1, 1, 0, 0, 0, .slice none 0 0⟩ ++ (rcl q).drop (j * 7) := by
              rw [rcl_take, rcl_drop, show q.take j ++ (⟨(j : Int) + 1, 1, 1, 0, 0, 0, .slice none 0 0⟩ : RE) :: q.drop j = q.take j ++ ([⟨(j : Int) + 1, 1, 1, 0, 0, 0, .slice none 0 0⟩] ++ q.drop j) from rfl, rcl_app, rcl_app, rcl_one]
              simp only [List.nil_append, List.append_assoc]
            rw [e1, e2]
            exact A4.out)
          refine ⟨by rw [hnP.out]; rfl, ⟨_, _, _, _, _, _, q1, ?_⟩, (Keeps.new hb1.out (Nat.le_trans hbase.out (Nat.le_refl _))).trans q2⟩
          exact ((HF1.out.take j).app (show Fits w1 (_ :: _) (_ :: _) from ⟨⟨by rw [hnP.out]; rfl, rfl, rfl, rfl, rfl, rfl, XE.nil _⟩, HF1.out.drop j⟩)).keeps q2 (by simp [DT])
        · have hlt : (j : Int) < (N : Int) := by omega
          go_wp2_with fail
          refine wp_region_held_drew (S := (fun w' => w'.cell? ⟨rg, 7, none⟩ = some (.slice (some ⟨g, 0, none⟩) N cap))) (by kernel_rfl) d7 (fun hHeld => ?_)
          refine wpAnyH_take (i := 0) (v := .pointer (some ⟨rg, 0, none⟩)) rfl (by kernel_rfl) (by kernel_rfl) (by kernel_rfl) (fun _ _ _ h => h) (Or.inl ⟨by rfl, fun w0 s1 => ?_⟩) hHeld ?_
          · go_simp
          try simp only [Act.put, List.setIfInBounds_toArray, List.set_cons_zero, List.set_cons_succ, List.getElem_toArray, List.getElem_cons_zero, List.getElem_cons_succ]
          refine wpAnyH_take (i := 1) (v := .pointer (some ⟨rg, 0, none⟩)) rfl (by kernel_rfl) (by kernel_rfl) (by kernel_rfl) (fun _ _ _ h => h) (Or.inl ⟨by rfl, fun w0 s1 => ?_⟩) hHeld ?_
          · go_simp
          try simp only [Act.put, List.setIfInBounds_toArray, List.set_cons_zero, List.set_cons_succ, List.getElem_toArray, List.getElem_cons_zero, List.getElem_cons_succ]
          refine wpAnyH_take (i := 2) (v := .pointer (some ⟨rg, 7, none⟩)) rfl (by kernel_rfl) (by kernel_rfl) (by kernel_rfl) (fun _ _ _ h => h) (Or.inl ⟨by rfl, fun w0 s1 => ?_⟩) hHeld ?_
          · go_simp
          try simp only [Act.put, List.setIfInBounds_toArray, List.set_cons_zero, List.set_cons_succ, List.getElem_toArray, List.getElem_cons_zero, List.getElem_cons_succ]
          refine wpAnyH_take (i := 3) (v := .slice (some ⟨g, 0, none⟩) N cap) rfl (by kernel_rfl) (by kernel_rfl) (by kernel_rfl) (fun _ _ _ h => h) (Or.inl ⟨by rfl, fun w0 s1 => ?_⟩) hHeld ?_
          · go_simp
          try simp only [Act.put, List.setIfInBounds_toArray, List.set_cons_zero, List.set_cons_succ, List.getElem_toArray, List.getElem_cons_zero, List.getElem_cons_succ]
          refine wpAnyH_take (i := 4) (v := .int .i64 (N : Int)) rfl (by kernel_rfl) (by kernel_rfl) (by kernel_rfl) (fun _ _ _ h => h) (Or.inl ⟨by rfl, fun w0 s1 => ?_⟩) hHeld ?_
          · go_simp
          try simp only [Act.put, List.setIfInBounds_toArray, List.set_cons_zero, List.set_cons_succ, List.getElem_toArray, List.getElem_cons_zero, List.getElem_cons_succ]
          refine wpAnyH_take (i := 5) (v := .int .i64 ((N : Int) + 1)) rfl (by kernel_rfl) (by kernel_rfl) (by kernel_rfl) (fun _ _ _ h => h) (Or.inl ⟨by rfl, fun w0 s1 => ?_⟩) hHeld ?_
          · go_simp
          try simp only [Act.put, List.setIfInBounds_toArray, List.set_cons_zero, List.set_cons_succ, List.getElem_toArray, List.getElem_cons_zero, List.getElem_cons_succ]
          refine wpAnyH_take (i := 7) (v := .pointer (some ⟨rg, 0, none⟩)) rfl (by kernel_rfl) (by kernel_rfl) (by kernel_rfl) (fun _ _ _ h => h) (Or.inl ⟨by rfl, fun w0 s1 => ?_⟩) hHeld ?_
          · go_simp
          try simp only [Act.put, List.setIfInBounds_toArray, List.set_cons_zero, List.set_cons_succ, List.getElem_toArray, List.getElem_cons_zero, List.getElem_cons_succ]
          refine wpAnyH_take (i := 8) (v := .pointer (some ⟨rg, 0, none⟩)) rfl (by kernel_rfl) (by kernel_rfl) (by kernel_rfl) (fun _ _ _ h => h) (Or.inl ⟨by rfl, fun w0 s1 => ?_⟩) hHeld ?_
          · go_simp
          try simp only [Act.put, List.setIfInBounds_toArray, List.set_cons_zero, List.set_cons_succ, List.getElem_toArray, List.getElem_cons_zero, List.getElem_cons_succ]
          refine wpAnyH_take (i := 9) (v := .pointer (some ⟨rg, 7, none⟩)) rfl (by kernel_rfl) (by kernel_rfl) (by kernel_rfl) (fun _ _ _ h => h) (Or.inl ⟨by rfl, fun w0 s1 => ?_⟩) hHeld ?_
          · go_simp
          try simp only [Act.put, List.setIfInBounds_toArray, List.set_cons_zero, List.set_cons_succ, List.getElem_toArray, List.getElem_cons_zero, List.getElem_cons_succ]
          refine wpAnyH_take (i := 10) (v := .slice (some ⟨g, 0, none⟩) N cap) rfl (by kernel_rfl) (by kernel_rfl) (by kernel_rfl) (fun _ _ _ h => h) (Or.inl ⟨by rfl, fun w0 s1 => ?_⟩) hHeld ?_
          · go_simp
          try simp only [Act.put, List.setIfInBounds_toArray, List.set_cons_zero, List.set_cons_succ, List.getElem_toArray, List.getElem_cons_zero, List.getElem_cons_succ]
          refine wpAnyH_take (i := 11) (v := .int .i64 (j : Int)) rfl (by kernel_rfl) (by kernel_rfl) (by kernel_rfl) (fun _ _ _ h => h) (Or.inl ⟨by rfl, fun w0 s1 => ?_⟩) hHeld ?_
          · go_simp
          try simp only [Act.put, List.setIfInBounds_toArray, List.set_cons_zero, List.set_cons_succ, List.getElem_toArray, List.getElem_cons_zero, List.getElem_cons_succ]
          refine wpAnyH_take (i := 12) (v := .slice (some ⟨g, 0, none⟩) j cap) rfl (by kernel_rfl) (by kernel_rfl) (by kernel_rfl) (fun _ _ _ h => h) (Or.inl ⟨by rfl, fun w0 s1 => ?_⟩) hHeld ?_
          · go_simp
          try simp only [Act.put, List.setIfInBounds_toArray, List.set_cons_zero, List.set_cons_succ, List.getElem_toArray, List.getElem_cons_zero, List.getElem_cons_succ]
          refine wpAnyH_ready (rs := [6]) (by kernel_rfl) (by simp) ?_
          refine AllReadyH.cons rfl (fun K hK => ?_) AllReadyH.nil
          go_simp
          refine hK.out _ _ (xa X) (fun hHeld1 => ?_)
          clear hK K
          try simp only [Act.put, List.setIfInBounds_toArray, List.set_cons_zero, List.set_cons_succ, List.getElem_toArray, List.getElem_cons_zero, List.getElem_cons_succ]
          refine wpAnyH_ready (rs := [13]) (by kernel_rfl) (by simp) ?_
          refine AllReadyH.cons rfl (fun K hK => ?_) AllReadyH.nil
          refine Own.step_app rfl (.tmp 54) (.tmp 60) 110 rfl Tryz.underlying110 info_ino (.slice (some ⟨w1.heap.size, 0, none⟩) 0 (N + 1)) (.slice (some ⟨g, 0, none⟩) j cap) rfl rfl A1.out (by simp) (hS1.out.keep hbS.out) hone1.out (by unfold maxLen; omega) (by omega) ?_
          intro v2 w2 ho2 hg2 hob2
          rw [Nat.zero_add] at ho2
          obtain ⟨a2, c2, rfl⟩ := Own.form ho2
          have A2 := W_hid ho2
          have B2 := W_hid (hbS.out.grown hg2 (by simp) (fun jj hj => Own.ge A1.out jj hj))
          have y2 := cellkept B2.out d7
          clear ho2 hg2 hob2
          refine hK.out _ _ y2 (fun hHeld2 => ?_)
          clear hK K
          try simp only [Act.put, List.setIfInBounds_toArray, List.set_cons_zero, List.set_cons_succ, List.getElem_toArray, List.getElem_cons_zero, List.getElem_cons_succ]
          refine wpAnyH_take (i := 14) (v := .slice a2 j c2) rfl (by kernel_rfl) (by kernel_rfl) (by kernel_rfl) (fun _ _ _ h => h) (Or.inl ⟨by rfl, fun w0 s1 => ?_⟩) hHeld2 ?_
          · go_simp
          try simp only [Act.put, List.setIfInBounds_toArray, List.set_cons_zero, List.set_cons_succ, List.getElem_toArray, List.getElem_cons_zero, List.getElem_cons_succ]
          refine wpAnyH_done (by kernel_rfl) ?_ _
          have hblk := Blk.new w2 131 (rrow ⟨(j : Int) + 1, 1, 1, 0, 0, 0, .slice none 0 0⟩) rfl
          have B2a := W_hid (B2.out.alloc B2.out.size (.cells #[.int .i64 ((j : Int) + 1), .int .i64 1, .int .i64 1, .int .i64 0, .int .i64 0, .int .i64 0, .slice none 0 0] 131))
          have A2a := W_hid (Own.below A2.out ((Below.refl w2.heap.size w2).alloc (Nat.le_refl _) (.cells #[.int .i64 ((j : Int) + 1), .int .i64 1, .int .i64 1, .int .i64 0, .int .i64 0, .int .i64 0, .slice none 0 0] 131)))
          have S2a : Hid (Own.Src (w2.alloc (.cells #[.int .i64 ((j : Int) + 1), .int .i64 1, .int .i64 1, .int .i64 0, .int .i64 0, .int .i64 0, .slice none 0 0] 131)) 7 (.slice (some ⟨w2.heap.size, 0, none⟩) 1 1) 1 (rrow ⟨(j : Int) + 1, 1, 1, 0, 0, 0, .slice none 0 0⟩)) := W_hid (.inr ⟨_, _, rfl, rfl, fun i u hi => by
            have := hblk.cell hi
            rw [Addr.add_lit, Nat.zero_add]
            exact this⟩)
          clear hblk
          go_wp2_with (first
            | (at_builtin; refine Own.wpList_app rfl (.tmp 62) (.tmp 68) 110 rfl Tryz.underlying110 info_ino (.slice a2 j c2) (.slice (some ⟨w2.heap.size, 0, none⟩) 1 1) rfl rfl A2a.out B2a.out.size S2a.out (rrow_one rfl) (by unfold maxLen; omega) (by omega) ?_; intro v3 w3 ho3 hg3 hob3; obtain ⟨a3, c3, rfl⟩ := Own.form ho3; have A3 := W_hid ho3; have B3 := W_hid (B2a.out.grown hg3 B2a.out.size (fun k h => Own.ge A2a.out k h)); have S3 := W_hid (hsrc3.out.1.keep B3.out); have y7 := cellkept B3.out d7; clear ho3 hg3 hob3)
            | (at_builtin; refine Own.wpList_app rfl (.tmp 71) (.tmp 77) 110 rfl Tryz.underlying110 info_ino (.slice a3 (j + 1) c3) ad rfl rfl A3.out B3.out.size S3.out hone3.out (by unfold maxLen; omega) (by omega) ?_; intro v4 w4 ho4 hg4 hob4; obtain ⟨a4, c4, rfl⟩ := Own.form ho4; have B4 := W_hid (B3.out.grown hg4 B3.out.size (fun k h => Own.ge A3.out k h)); have A4 := W_hid ho4; have f4 := (H1.out.box.below B4.out hrl.out).fz; have z7 := (H1.out.box.below B4.out hrl.out).cell (j := 7) rfl; clear ho4 hg4 hob4))
          go_wp2_with fail
          go_ret2
          obtain ⟨q1, q2⟩ := H1.out.newRow (q' := q.take j ++ (⟨(j : Int) + 1, 1, 1, 0, 0, 0, .slice none 0 0⟩ : RE) :: q.drop j) B4.out (by
            have e1 : (q.take j ++ (⟨(j : Int) + 1, 1, 1, 0, 0, 0, .slice none 0 0⟩ : RE) :: q.drop j).length = j + 1 + (N - j) := by
              rw [List.length_append, List.length_take, List.length_cons, List.length_drop, hN.out]; omega
            have e2 : rcl (q.take j ++ (⟨(j : Int) + 1, 1, 1, 0, 0, 0, .slice none 0 0⟩ : RE) :: q.drop j) = [] ++ (rcl q).take (j * 7) ++ rrow ⟨(j : Int) + 1, 1, 1, 0, 0, 0, .slice none 0 0⟩ ++ (rcl q).drop (j * 7) := by
              rw [rcl_take, rcl_drop, show q.take j ++ (⟨(j : Int) + 1, 1, 1, 0, 0, 0, .slice none 0 0⟩ : RE) :: q.drop j = q.take j ++ ([⟨(j : Int) + 1, 1, 1, 0, 0, 0, .slice none 0 0⟩] ++ q.drop j) from rfl, rcl_app, rcl_app, rcl_one]
              simp only [List.nil_append, List.append_assoc]
            rw [e1, e2]
            exact A4.out)
          refine ⟨by rw [hnP.out]; rfl, ⟨_, _, _, _, _, _, q1, ?_⟩, (Keeps.new hb1.out (Nat.le_trans hbase.out (Nat.le_refl _))).trans q2⟩
          exact ((HF1.out.take j).app (show Fits w1 (_ :: _) (_ :: _) from ⟨⟨by rw [hnP.out]; rfl, rfl, rfl, rfl, rfl, rfl, XE.nil _⟩, HF1.out.drop j⟩)).keeps q2 (by simp [DT])
  · go_enter Tryz.func60, Tryz.ntmps60
    go_wp2_with fail
    go_quiet (fail)
    go_wp2_with fail
    have H1 := W_hid (H.out.drewN nq)
    have HF1 := W_hid (HF.out.drewN nq)
    have hb1 := W_hid (drew_keep (w := w) nq)
    have d0 := H1.out.box.cell (j := 0) rfl
    have d7 := H1.out.box.cell (j := 7) rfl
    rw [hN.out] at d7
    obtain ⟨w1, hw1⟩ : ∃ w1, w.drewN nq = w1 := ⟨_, rfl⟩
    rw [hw1] at H1 HF1 hb1 d0 d7 ⊢
    clear hw1 c0 c7 H HF
    go_loopw [6] (fun i wr => ∃ j : Nat, j ≤ P ∧ i = .int .i64 (j : Int) ∧ w1 = wr) (fun i _ => P - (intOf i).toNat)
    case atStart => exact ⟨0, Nat.zero_le _, rfl, rfl⟩
    case round =>
      obtain ⟨j, hj, rfl, hwr⟩ := hrel
      subst hwr
      by_cases hjP : j < P
      · have hjq : j < q.length := by rw [hN.out]; omega
        obtain ⟨g, N', cap', hv, hN', -, -, -, -, -, -, -, -, -, -, -, -, -, e0, -⟩ := H1.out.opened hjq
        rw [hN.out] at hv
        simp only [Value.slice.injEq] at hv
        obtain ⟨rfl, -, -⟩ := hv
        rw [(hel.out j hjq).1 hjP] at e0
        have hjN : (j : Int) < (N : Int) := by omega
        have hwj : IntKind.i64.wrap ((j : Int) + 1) = (j : Int) + 1 := IntWalk.i64_in _ (by omega)
        clear hN' N' hjq
        go_wp2_with fail
        go_roundw
        case rel => exact ⟨j + 1, by omega, by go_num, by first | trivial | rfl⟩
        case measure => simp [intOf]; omega
      · obtain rfl : j = P := by omega
        have hcase : Hid (j = N) ∨ (j < N ∧ ∃ g a, ao = some ⟨g, 0, none⟩ ∧ w1.cell? ⟨g, j * 7, none⟩ = some (.int .i64 a) ∧ ¬ a = (j : Int) + 1) := by
          rcases Nat.lt_or_ge j N with hlt | hge
          · right
            have hjq : j < q.length := by rw [hN.out]; omega
            obtain ⟨g, N', cap', hv, hN', -, -, -, -, -, -, -, -, -, -, -, -, -, e0, -⟩ := H1.out.opened hjq
            rw [hN.out] at hv
            simp only [Value.slice.injEq] at hv
            exact ⟨hlt, g, _, hv.1, e0, (hel.out j hjq).2 rfl⟩
          · left; exact W_hid (by omega)
        have hS1 := W_hid (Own.src_take (v := .slice ao N cap) (by have := H1.out.row; rw [hN.out] at this; exact this) rfl j hPN)
        have hone1 : Hid (∀ u ∈ (rcl q).take (j * 7), u.oneCell' = true) := W_hid (fun u hu => HF1.out.one u (List.mem_of_mem_take hu))
        have hone3 : Hid (∀ u ∈ (rcl q).drop (j * 7), u.oneCell' = true) := W_hid (fun u hu => HF1.out.one u (List.mem_of_mem_drop hu))
        obtain ⟨ad, hlo3, hsrc3⟩ : ∃ ad : Value, (∀ W : World, (Instr.slice 110 (.slice ao N cap) (some (.int .i64 (j : Int))) none none).run Tryz.prog W = .ok ad W) ∧ Hid (Own.Src w1 7 ad (N - j) ((rcl q).drop (j * 7)) ∧ ∀ aa n c, ad = .slice (some aa) n c → aa.block < w1.heap.size) := by
          rcases hc3.out with e | ⟨b, ob, e⟩
          · have e2 := hc4.out e
            obtain rfl : N = 0 := by omega
            subst e; subst e2
            obtain rfl : j = 0 := by omega
            refine ⟨.slice none 0 0, Own.cut_none (t := 110) Tryz.underlying110 elem_ino info_ino, W_hid ⟨.inl ⟨rfl, rfl, ?_⟩, fun aa n c e => by simp at e⟩⟩
            rw [Nat.zero_mul, List.drop_zero]
            exact List.eq_nil_of_length_eq_zero (by rw [rcl_len, hN.out])
          · subst e
            have hrow := H1.out.row
            rw [hN.out] at hrow
            obtain ⟨ad, hl1, hl2, hl3⟩ := Own.cut_lo (t := 110) Tryz.underlying110 elem_ino info_ino b ob N cap j (j : Int) rfl hPN hc1
            refine ⟨_, hl1, W_hid ⟨Own.src_drop hrow j hPN ad _ hl3, fun aa n c e => ?_⟩⟩
            simp only [Value.slice.injEq, Option.some.injEq] at e
            obtain ⟨rfl, -, -⟩ := e
            rw [hl2]
            rcases hrow.2 with ⟨e, _⟩ | ⟨g, cap', cur, e, _, hg, _⟩
            · simp at e
            · simp only [Value.slice.injEq, Option.some.injEq, Addr.mk.injEq] at e
              rw [e.1.1]
              exact lt_of_some hg
        have xa : ∀ ob, (w1.drew.alloc ob).cell? ⟨rg, 7, none⟩ = some (.slice ao N cap) := fun ob => cellkept (((Below.refl w1.heap.size w1).drew).alloc (Nat.le_refl _) ob) d7
        have A1 : Hid ((w1.drew.alloc X).ownsRow w1.heap.size 131 7 (.slice (some ⟨w1.heap.size, 0, none⟩) 0 (N + 1)) 0 []) := W_hid (hmo.out w1.drew w1.heap.size (Nat.le_refl _))
        have hrl := W_hid H1.out.box.lt
        have hbS := W_hid (((Below.refl w1.heap.size w1).drew).alloc (Nat.le_refl _) X)
        have hhi' := hhi.out
        rcases hcase with h1 | ⟨h1, g, a, rfl, e0, e1⟩
        · have hge : (N : Int) ≤ (j : Int) := by have := h1.out; omega
          go_wp2_with fail
          refine wp_region_held_drew (S := (fun w' => w'.cell? ⟨rg, 7, none⟩ = some (.slice ao N cap))) (by kernel_rfl) d7 (fun hHeld => ?_)
          refine wpAnyH_take (i := 0) (v := .pointer (some ⟨rg, 0, none⟩)) rfl (by kernel_rfl) (by kernel_rfl) (by kernel_rfl) (fun _ _ _ h => h) (Or.inl ⟨by rfl, fun w0 s1 => ?_⟩) hHeld ?_
          · go_simp
          try simp only [Act.put, List.setIfInBounds_toArray, List.set_cons_zero, List.set_cons_succ, List.getElem_toArray, List.getElem_cons_zero, List.getElem_cons_succ]
          refine wpAnyH_take (i := 1) (v := .pointer (some ⟨rg, 0, none⟩)) rfl (by kernel_rfl) (by kernel_rfl) (by kernel_rfl) (fun _ _ _ h => h) (Or.inl ⟨by rfl, fun w0 s1 => ?_⟩) hHeld ?_
          · go_simp
          try simp only [Act.put, List.setIfInBounds_toArray, List.set_cons_zero, List.set_cons_succ, List.getElem_toArray, List.getElem_cons_zero, List.getElem_cons_succ]
          refine wpAnyH_take (i := 2) (v := .pointer (some ⟨rg, 7, none⟩)) rfl (by kernel_rfl) (by kernel_rfl) (by kernel_rfl) (fun _ _ _ h => h) (Or.inl ⟨by rfl, fun w0 s1 => ?_⟩) hHeld ?_
          · go_simp
          try simp only [Act.put, List.setIfInBounds_toArray, List.set_cons_zero, List.set_cons_succ, List.getElem_toArray, List.getElem_cons_zero, List.getElem_cons_succ]
          refine wpAnyH_take (i := 3) (v := .slice ao N cap) rfl (by kernel_rfl) (by kernel_rfl) (by kernel_rfl) (fun _ _ _ h => h) (Or.inl ⟨by rfl, fun w0 s1 => ?_⟩) hHeld ?_
          · go_simp
          try simp only [Act.put, List.setIfInBounds_toArray, List.set_cons_zero, List.set_cons_succ, List.getElem_toArray, List.getElem_cons_zero, List.getElem_cons_succ]
          refine wpAnyH_take (i := 4) (v := .int .i64 (N : Int)) rfl (by kernel_rfl) (by kernel_rfl) (by kernel_rfl) (fun _ _ _ h => h) (Or.inl ⟨by rfl, fun w0 s1 => ?_⟩) hHeld ?_
          · go_simp
          try simp only [Act.put, List.setIfInBounds_toArray, List.set_cons_zero, List.set_cons_succ, List.getElem_toArray, List.getElem_cons_zero, List.getElem_cons_succ]
          refine wpAnyH_take (i := 5) (v := .int .i64 ((N : Int) + 1)) rfl (by kernel_rfl) (by kernel_rfl) (by kernel_rfl) (fun _ _ _ h => h) (Or.inl ⟨by rfl, fun w0 s1 => ?_⟩) hHeld ?_
          · go_simp
          try simp only [Act.put, List.setIfInBounds_toArray, List.set_cons_zero, List.set_cons_succ, List.getElem_toArray, List.getElem_cons_zero, List.getElem_cons_succ]
          refine wpAnyH_take (i := 7) (v := .pointer (some ⟨rg, 0, none⟩)) rfl (by kernel_rfl) (by kernel_rfl) (by kernel_rfl) (fun _ _ _ h => h) (Or.inl ⟨by rfl, fun w0 s1 => ?_⟩) hHeld ?_
          · go_simp
          try simp only [Act.put, List.setIfInBounds_toArray, List.set_cons_zero, List.set_cons_succ, List.getElem_toArray, List.getElem_cons_zero, List.getElem_cons_succ]
          refine wpAnyH_take (i := 8) (v := .pointer (some ⟨rg, 0, none⟩)) rfl (by kernel_rfl) (by kernel_rfl) (by kernel_rfl) (fun _ _ _ h => h) (Or.inl ⟨by rfl, fun w0 s1 => ?_⟩) hHeld ?_
          · go_simp
          try simp only [Act.put, List.setIfInBounds_toArray, List.set_cons_zero, List.set_cons_succ, List.getElem_toArray, List.getElem_cons_zero, List.getElem_cons_succ]
          refine wpAnyH_take (i := 9) (v := .pointer (some ⟨rg, 7, none⟩)) rfl (by kernel_rfl) (by kernel_rfl) (by kernel_rfl) (fun _ _ _ h => h) (Or.inl ⟨by rfl, fun w0 s1 => ?_⟩) hHeld ?_
          · go_simp
          try simp only [Act.put, List.setIfInBounds_toArray, List.set_cons_zero, List.set_cons_succ, List.getElem_toArray, List.getElem_cons_zero, List.getElem_cons_succ]
          refine wpAnyH_take (i := 10) (v := .slice ao N cap) rfl (by kernel_rfl) (by kernel_rfl) (by kernel_rfl) (fun _ _ _ h => h) (Or.inl ⟨by rfl, fun w0 s1 => ?_⟩) hHeld ?_
          · go_simp
          try simp only [Act.put, List.setIfInBounds_toArray, List.set_cons_zero, List.set_cons_succ, List.getElem_toArray, List.getElem_cons_zero, List.getElem_cons_succ]
          refine wpAnyH_take (i := 11) (v := .int .i64 (j : Int)) rfl (by kernel_rfl) (by kernel_rfl) (by kernel_rfl) (fun _ _ _ h => h) (Or.inl ⟨by rfl, fun w0 s1 => ?_⟩) hHeld ?_
          · go_simp
          try simp only [Act.put, List.setIfInBounds_toArray, List.set_cons_zero, List.set_cons_succ, List.getElem_toArray, List.getElem_cons_zero, List.getElem_cons_succ]
          refine wpAnyH_take (i := 12) (v := .slice ao j cap) rfl (by kernel_rfl) (by kernel_rfl) (by kernel_rfl) (fun _ _ _ h => h) (Or.inl ⟨by rfl, fun w0 s1 => ?_⟩) hHeld ?_
          · go_simp
          try simp only [Act.put, List.setIfInBounds_toArray, List.set_cons_zero, List.set_cons_succ, List.getElem_toArray, List.getElem_cons_zero, List.getElem_cons_succ]
          refine wpAnyH_ready (rs := [6]) (by kernel_rfl) (by simp) ?_
          refine AllReadyH.cons rfl (fun K hK => ?_) AllReadyH.nil
          go_simp
          refine hK.out _ _ (xa X) (fun hHeld1 => ?_)
          clear hK K
          try simp only [Act.put, List.setIfInBounds_toArray, List.set_cons_zero, List.set_cons_succ, List.getElem_toArray, List.getElem_cons_zero, List.getElem_cons_succ]
          refine wpAnyH_ready (rs := [13]) (by kernel_rfl) (by simp) ?_
          refine AllReadyH.cons rfl (fun K hK => ?_) AllReadyH.nil
          refine Own.step_app rfl (.tmp 54) (.tmp 60) 110 rfl Tryz.underlying110 info_ino (.slice (some ⟨w1.heap.size, 0, none⟩) 0 (N + 1)) (.slice ao j cap) rfl rfl A1.out (by simp) (hS1.out.keep hbS.out) hone1.out (by unfold maxLen; omega) (by omega) ?_
          intro v2 w2 ho2 hg2 hob2
          rw [Nat.zero_add] at ho2
          obtain ⟨a2, c2, rfl⟩ := Own.form ho2
          have A2 := W_hid ho2
          have B2 := W_hid (hbS.out.grown hg2 (by simp) (fun jj hj => Own.ge A1.out jj hj))
          have y2 := cellkept B2.out d7
          clear ho2 hg2 hob2
          refine hK.out _ _ y2 (fun hHeld2 => ?_)
          clear hK K
          try simp only [Act.put, List.setIfInBounds_toArray, List.set_cons_zero, List.set_cons_succ, List.getElem_toArray, List.getElem_cons_zero, List.getElem_cons_succ]
          refine wpAnyH_take (i := 14) (v := .slice a2 j c2) rfl (by kernel_rfl) (by kernel_rfl) (by kernel_rfl) (fun _ _ _ h => h) (Or.inl ⟨by rfl, fun w0 s1 => ?_⟩) hHeld2 ?_
          · go_simp
          try simp only [Act.put, List.setIfInBounds_toArray, List.set_cons_zero, List.set_cons_succ, List.getElem_toArray, List.getElem_cons_zero, List.getElem_cons_succ]
          refine wpAnyH_done (by kernel_rfl) ?_ _
          have hblk := Blk.new w2 131 (rrow ⟨(j : Int) + 1, 2, 1, 0, 0, 0, .slice none 0 0⟩) rfl
          have B2a := W_hid (B2.out.alloc B2.out.size (.cells #[.int .i64 ((j : Int) + 1), .int .i64 2, .int .i64 1, .int .i64 0, .int .i64 0, .int .i64 0, .slice none 0 0] 131))
          have A2a := W_hid (Own.below A2.out ((Below.refl w2.heap.size w2).alloc (Nat.le_refl _) (.cells #[.int .i64 ((j : Int) + 1), .int .i64 2, .int .i64 1, .int .i64 0, .int .i64 0, .int .i64 0, .slice none 0 0] 131)))
          have S2a : Hid (Own.Src (w2.alloc (.cells #[.int .i64 ((j : Int) + 1), .int .i64 2, .int .i64 1, .int .i64 0, .int .i64 0, .int .i64 0, .slice none 0 0] 131)) 7 (.slice (some ⟨w2.heap.size, 0, none⟩) 1 1) 1 (rrow ⟨(j : Int) + 1, 2, 1, 0, 0, 0, .slice none 0 0⟩)) := W_hid (.inr ⟨_, _, rfl, rfl, fun i u hi => by
            have := hblk.cell hi
            rw [Addr.add_lit, Nat.zero_add]
            exact this⟩)
          clear hblk
          go_wp2_with (first
            | (at_builtin; refine Own.wpList_app rfl (.tmp 62) (.tmp 68) 110 rfl Tryz.underlying110 info_ino (.slice a2 j c2) (.slice (some ⟨w2.heap.size, 0, none⟩) 1 1) rfl rfl A2a.out B2a.out.size S2a.out (rrow_one rfl) (by unfold maxLen; omega) (by omega) ?_; intro v3 w3 ho3 hg3 hob3; obtain ⟨a3, c3, rfl⟩ := Own.form ho3; have A3 := W_hid ho3; have B3 := W_hid (B2a.out.grown hg3 B2a.out.size (fun k h => Own.ge A2a.out k h)); have S3 := W_hid (hsrc3.out.1.keep B3.out); have y7 := cellkept B3.out d7; clear ho3 hg3 hob3)
            | (at_builtin; refine Own.wpList_app rfl (.tmp 71) (.tmp 77) 110 rfl Tryz.underlying110 info_ino (.slice a3 (j + 1) c3) ad rfl rfl A3.out B3.out.size S3.out hone3.out (by unfold maxLen; omega) (by omega) ?_; intro v4 w4 ho4 hg4 hob4; obtain ⟨a4, c4, rfl⟩ := Own.form ho4; have B4 := W_hid (B3.out.grown hg4 B3.out.size (fun k h => Own.ge A3.out k h)); have A4 := W_hid ho4; have f4 := (H1.out.box.below B4.out hrl.out).fz; have z7 := (H1.out.box.below B4.out hrl.out).cell (j := 7) rfl; clear ho4 hg4 hob4))
          go_wp2_with fail
          go_ret2
          obtain ⟨q1, q2⟩ := H1.out.newRow (q' := q.take j ++ (⟨(j : Int) + 1, 2, 1, 0, 0, 0, .slice none 0 0⟩ : RE) :: q.drop j) B4.out (by
            have e1 : (q.take j ++ (⟨(j : Int) + 1, 2, 1, 0, 0, 0, .slice none 0 0⟩ : RE) :: q.drop j).length = j + 1 + (N - j) := by
              rw [List.length_append, List.length_take, List.length_cons, List.length_drop, hN.out]; omega
            have e2 : rcl (q.take j ++ (⟨(j : Int) + 1, 2, 1, 0, 0, 0, .slice none 0 0⟩ : RE) :: q.drop j) = [] ++ (rcl q).take (j * 7) ++ rrow ⟨(j : Int) + 1, 2, 1, 0, 0, 0, .slice none 0 0⟩ ++ (rcl q).drop (j * 7) := by
              rw [rcl_take, rcl_drop, show q.take j ++ (⟨(j : Int) + 1, 2, 1, 0, 0, 0, .slice none 0 0⟩ : RE) :: q.drop j = q.take j ++ ([⟨(j : Int) + 1, 2, 1, 0, 0, 0, .slice none 0 0⟩] ++ q.drop j) from rfl, rcl_app, rcl_app, rcl_one]
              simp only [List.nil_append, List.append_assoc]
            rw [e1, e2]
            exact A4.out)
          refine ⟨by rw [hnP.out]; rfl, ⟨_, _, _, _, _, _, q1, ?_⟩, (Keeps.new hb1.out (Nat.le_trans hbase.out (Nat.le_refl _))).trans q2⟩
          exact ((HF1.out.take j).app (show Fits w1 (_ :: _) (_ :: _) from ⟨⟨by rw [hnP.out]; rfl, rfl, rfl, rfl, rfl, rfl, XE.nil _⟩, HF1.out.drop j⟩)).keeps q2 (by simp [DT])
        · have hlt : (j : Int) < (N : Int) := by omega
          go_wp2_with fail
          refine wp_region_held_drew (S := (fun w' => w'.cell? ⟨rg, 7, none⟩ = some (.slice (some ⟨g, 0, none⟩) N cap))) (by kernel_rfl) d7 (fun hHeld => ?_)
          refine wpAnyH_take (i := 0) (v := .pointer (some ⟨rg, 0, none⟩)) rfl (by kernel_rfl) (by kernel_rfl) (by kernel_rfl) (fun _ _ _ h => h) (Or.inl ⟨by rfl, fun w0 s1 => ?_⟩) hHeld ?_
          · go_simp
          try simp only [Act.put, List.setIfInBounds_toArray, List.set_cons_zero, List.set_cons_succ, List.getElem_toArray, List.getElem_cons_zero, List.getElem_cons_succ]
          refine wpAnyH_take (i := 1) (v := .pointer (some ⟨rg, 0, none⟩)) rfl (by kernel_rfl) (by kernel_rfl) (by kernel_rfl) (fun _ _ _ h => h) (Or.inl ⟨by rfl, fun w0 s1 => ?_⟩) hHeld ?_
          · go_simp
          try simp only [Act.put, List.setIfInBounds_toArray, List.set_cons_zero, List.set_cons_succ, List.getElem_toArray, List.getElem_cons_zero, List.getElem_cons_succ]
          refine wpAnyH_take (i := 2) (v := .pointer (some ⟨rg, 7, none⟩)) rfl (by kernel_rfl) (by kernel_rfl) (by kernel_rfl) (fun _ _ _ h => h) (Or.inl ⟨by rfl, fun w0 s1 => ?_⟩) hHeld ?_
          · go_simp
          try simp only [Act.put, List.setIfInBounds_toArray, List.set_cons_zero, List.set_cons_succ, List.getElem_toArray, List.getElem_cons_zero, List.getElem_cons_succ]
          refine wpAnyH_take (i := 3) (v := .slice (some ⟨g, 0, none⟩) N cap) rfl (by kernel_rfl) (by kernel_rfl) (by kernel_rfl) (fun _ _ _ h => h) (Or.inl ⟨by rfl, fun w0 s1 => ?_⟩) hHeld ?_
          · go_simp
          try simp only [Act.put, List.setIfInBounds_toArray, List.set_cons_zero, List.set_cons_succ, List.getElem_toArray, List.getElem_cons_zero, List.getElem_cons_succ]
          refine wpAnyH_take (i := 4) (v := .int .i64 (N : Int)) rfl (by kernel_rfl) (by kernel_rfl) (by kernel_rfl) (fun _ _ _ h => h) (Or.inl ⟨by rfl, fun w0 s1 => ?_⟩) hHeld ?_
          · go_simp
          try simp only [Act.put, List.setIfInBounds_toArray, List.set_cons_zero, List.set_cons_succ, List.getElem_toArray, List.getElem_cons_zero, List.getElem_cons_succ]
          refine wpAnyH_take (i := 5) (v := .int .i64 ((N : Int) + 1)) rfl (by kernel_rfl) (by kernel_rfl) (by kernel_rfl) (fun _ _ _ h => h) (Or.inl ⟨by rfl, fun w0 s1 => ?_⟩) hHeld ?_
          · go_simp
          try simp only [Act.put, List.setIfInBounds_toArray, List.set_cons_zero, List.set_cons_succ, List.getElem_toArray, List.getElem_cons_zero, List.getElem_cons_succ]
          refine wpAnyH_take (i := 7) (v := .pointer (some ⟨rg, 0, none⟩)) rfl (by kernel_rfl) (by kernel_rfl) (by kernel_rfl) (fun _ _ _ h => h) (Or.inl ⟨by rfl, fun w0 s1 => ?_⟩) hHeld ?_
          · go_simp
          try simp only [Act.put, List.setIfInBounds_toArray, List.set_cons_zero, List.set_cons_succ, List.getElem_toArray, List.getElem_cons_zero, List.getElem_cons_succ]
          refine wpAnyH_take (i := 8) (v := .pointer (some ⟨rg, 0, none⟩)) rfl (by kernel_rfl) (by kernel_rfl) (by kernel_rfl) (fun _ _ _ h => h) (Or.inl ⟨by rfl, fun w0 s1 => ?_⟩) hHeld ?_
          · go_simp
          try simp only [Act.put, List.setIfInBounds_toArray, List.set_cons_zero, List.set_cons_succ, List.getElem_toArray, List.getElem_cons_zero, List.getElem_cons_succ]
          refine wpAnyH_take (i := 9) (v := .pointer (some ⟨rg, 7, none⟩)) rfl (by kernel_rfl) (by kernel_rfl) (by kernel_rfl) (fun _ _ _ h => h) (Or.inl ⟨by rfl, fun w0 s1 => ?_⟩) hHeld ?_
          · go_simp
          try simp only [Act.put, List.setIfInBounds_toArray, List.set_cons_zero, List.set_cons_succ, List.getElem_toArray, List.getElem_cons_zero, List.getElem_cons_succ]
          refine wpAnyH_take (i := 10) (v := .slice (some ⟨g, 0, none⟩) N cap) rfl (by kernel_rfl) (by kernel_rfl) (by kernel_rfl) (fun _ _ _ h => h) (Or.inl ⟨by rfl, fun w0 s1 => ?_⟩) hHeld ?_
          · go_simp
          try simp only [Act.put, List.setIfInBounds_toArray, List.set_cons_zero, List.set_cons_succ, List.getElem_toArray, List.getElem_cons_zero, List.getElem_cons_succ]
          refine wpAnyH_take (i := 11) (v := .int .i64 (j : Int)) rfl (by kernel_rfl) (by kernel_rfl) (by kernel_rfl) (fun _ _ _ h => h) (Or.inl ⟨by rfl, fun w0 s1 => ?_⟩) hHeld ?_
          · go_simp
          try simp only [Act.put, List.setIfInBounds_toArray, List.set_cons_zero, List.set_cons_succ, List.getElem_toArray, List.getElem_cons_zero, List.getElem_cons_succ]
          refine wpAnyH_take (i := 12) (v := .slice (some ⟨g, 0, none⟩) j cap) rfl (by kernel_rfl) (by kernel_rfl) (by kernel_rfl) (fun _ _ _ h => h) (Or.inl ⟨by rfl, fun w0 s1 => ?_⟩) hHeld ?_
          · go_simp
          try simp only [Act.put, List.setIfInBounds_toArray, List.set_cons_zero, List.set_cons_succ, List.getElem_toArray, List.getElem_cons_zero, List.getElem_cons_succ]
          refine wpAnyH_ready (rs := [6]) (by kernel_rfl) (by simp) ?_
          refine AllReadyH.cons rfl (fun K hK => ?_) AllReadyH.nil
          go_simp
          refine hK.out _ _ (xa X) (fun hHeld1 => ?_)
          clear hK K
          try simp only [Act.put, List.setIfInBounds_toArray, List.set_cons_zero, List.set_cons_succ, List.getElem_toArray, List.getElem_cons_zero, List.getElem_cons_succ]
          refine wpAnyH_ready (rs := [13]) (by kernel_rfl) (by simp) ?_
          refine AllReadyH.cons rfl (fun K hK => ?_) AllReadyH.nil
          refine Own.step_app rfl (.tmp 54) (.tmp 60) 110 rfl Tryz.underlying110 info_ino (.slice (some ⟨w1.heap.size, 0, none⟩) 0 (N + 1)) (.slice (some ⟨g, 0, none⟩) j cap) rfl rfl A1.out (by simp) (hS1.out.keep hbS.out) hone1.out (by unfold maxLen; omega) (by omega) ?_
          intro v2 w2 ho2 hg2 hob2
          rw [Nat.zero_add] at ho2
          obtain ⟨a2, c2, rfl⟩ := Own.form ho2
          have A2 := W_hid ho2
          have B2 := W_hid (hbS.out.grown hg2 (by simp) (fun jj hj => Own.ge A1.out jj hj))
          have y2 := cellkept B2.out d7
          clear ho2 hg2 hob2
          refine hK.out _ _ y2 (fun hHeld2 => ?_)
          clear hK K
          try simp only [Act.put, List.setIfInBounds_toArray, List.set_cons_zero, List.set_cons_succ, List.getElem_toArray, List.getElem_cons_zero, List.getElem_cons_succ]
          refine wpAnyH_take (i := 14) (v := .slice a2 j c2) rfl (by kernel_rfl) (by kernel_rfl) (by kernel_rfl) (fun _ _ _ h => h) (Or.inl ⟨by rfl, fun w0 s1 => ?_⟩) hHeld2 ?_
          · go_simp
          try simp only [Act.put, List.setIfInBounds_toArray, List.set_cons_zero, List.set_cons_succ, List.getElem_toArray, List.getElem_cons_zero, List.getElem_cons_succ]
          refine wpAnyH_done (by kernel_rfl) ?_ _
          have hblk := Blk.new w2 131 (rrow ⟨(j : Int) + 1, 2, 1, 0, 0, 0, .slice none 0 0⟩) rfl
          have B2a := W_hid (B2.out.alloc B2.out.size (.cells #[.int .i64 ((j : Int) + 1), .int .i64 2, .int .i64 1, .int .i64 0, .int .i64 0, .int .i64 0, .slice none 0 0] 131))
          have A2a := W_hid (Own.below A2.out ((Below.refl w2.heap.size w2).alloc (Nat.le_refl _) (.cells #[.int .i64 ((j : Int) + 1), .int .i64 2, .int .i64 1, .int .i64 0, .int .i64 0, .int .i64 0, .slice none 0 0] 131)))
          have S2a : Hid (Own.Src (w2.alloc (.cells #[.int .i64 ((j : Int) + 1), .int .i64 2, .int .i64 1, .int .i64 0, .int .i64 0, .int .i64 0, .slice none 0 0] 131)) 7 (.slice (some ⟨w2.heap.size, 0, none⟩) 1 1) 1 (rrow ⟨(j : Int) + 1, 2, 1, 0, 0, 0, .slice none 0 0⟩)) := W_hid (.inr ⟨_, _, rfl, rfl, fun i u hi => by
            have := hblk.cell hi
            rw [Addr.add_lit, Nat.zero_add]
            exact this⟩)
          clear hblk
          go_wp2_with (first
            | (at_builtin; refine Own.wpList_app rfl (.tmp 62) (.tmp 68) 110 rfl Tryz.underlying110 info_ino (.slice a2 j c2) (.slice (some ⟨w2.heap.size, 0, none⟩) 1 1) rfl rfl A2a.out B2a.out.size S2a.out (rrow_one rfl) (by unfold maxLen; omega) (by omega) ?_; intro v3 w3 ho3 hg3 hob3; obtain ⟨a3, c3, rfl⟩ := Own.form ho3; have A3 := W_hid ho3; have B3 := W_hid (B2a.out.grown hg3 B2a.out.size (fun k h => Own.ge A2a.out k h)); have S3 := W_hid (hsrc3.out.1.keep B3.out); have y7 := cellkept B3.out d7; clear ho3 hg3 hob3)
            | (at_builtin; refine Own.wpList_app rfl (.tmp 71) (.tmp 77) 110 rfl Tryz.underlying110 info_ino (.slice a3 (j + 1) c3) ad rfl rfl A3.out B3.out.size S3.out hone3.out (by unfold maxLen; omega) (by omega) ?_; intro v4 w4 ho4 hg4 hob4; obtain ⟨a4, c4, rfl⟩ := Own.form ho4; have B4 := W_hid (B3.out.grown hg4 B3.out.size (fun k h => Own.ge A3.out k h)); have A4 := W_hid ho4; have f4 := (H1.out.box.below B4.out hrl.out).fz; have z7 := (H1.out.box.below B4.out hrl.out).cell (j := 7) rfl; clear ho4 hg4 hob4))
          go_wp2_with fail
          go_ret2
          obtain ⟨q1, q2⟩ := H1.out.newRow (q' := q.take j ++ (⟨(j : Int) + 1, 2, 1, 0, 0, 0, .slice none 0 0⟩ : RE) :: q.drop j) B4.out (by
            have e1 : (q.take j ++ (⟨(j : Int) + 1, 2, 1, 0, 0, 0, .slice none 0 0⟩ : RE) :: q.drop j).length = j + 1 + (N - j) := by
              rw [List.length_append, List.length_take, List.length_cons, List.length_drop, hN.out]; omega
            have e2 : rcl (q.take j ++ (⟨(j : Int) + 1, 2, 1, 0, 0, 0, .slice none 0 0⟩ : RE) :: q.drop j) = [] ++ (rcl q).take (j * 7) ++ rrow ⟨(j : Int) + 1, 2, 1, 0, 0, 0, .slice none 0 0⟩ ++ (rcl q).drop (j * 7) := by
              rw [rcl_take, rcl_drop, show q.take j ++ (⟨(j : Int) + 1, 2, 1, 0, 0, 0, .slice none 0 0⟩ : RE) :: q.drop j = q.take j ++ ([⟨(j : Int) + 1, 2, 1, 0, 0, 0, .slice none 0 0⟩] ++ q.drop j) from rfl, rcl_app, rcl_app, rcl_one]
              simp only [List.nil_append, List.append_assoc]
            rw [e1, e2]
            exact A4.out)
          refine ⟨by rw [hnP.out]; rfl, ⟨_, _, _, _, _, _, q1, ?_⟩, (Keeps.new hb1.out (Nat.le_trans hbase.out (Nat.le_refl _))).trans q2⟩
          exact ((HF1.out.take j).app (show Fits w1 (_ :: _) (_ :: _) from ⟨⟨by rw [hnP.out]; rfl, rfl, rfl, rfl, rfl, rfl, XE.nil _⟩, HF1.out.drop j⟩)).keeps q2 (by simp [DT])
end
end IN
end Go.Proofs.YtmnmheocmcmpmaaGreat
