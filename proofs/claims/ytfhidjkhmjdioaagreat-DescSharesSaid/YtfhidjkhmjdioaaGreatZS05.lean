/- Tables of descriptors, their tree and their store as one; frames. -/
import Derived.Test.YtfhidjkhmjdioaaGreatZS04
import Derived.Test.YtfhidjkhmjdioaaGreatZS03
import Derived.Deep.RegionHeld3
import Derived.Test.YtfhidjkhmjdioaaGreatZS02

namespace Go.Proofs.YtfhidjkhmjdioaaGreat
open Go.ChangeShapes Go.WideShapes Go.ChangeAt Go.RowKit Go.Maps
set_option linter.unusedVariables false
set_option linter.unusedSimpArgs false
namespace NT
open IN (Keeps)
def ncl1 (M : ByteArray → Option (Int × Option Nat)) (k : ByteArray) : List Value := [.string k, .int .i64 ((M k).getD (0, none)).1, .int .i64 (if ((M k).getD (0, none)).2 = none then 1 else 2)]
def ncl (M : ByteArray → Option (Int × Option Nat)) (l : List ByteArray) : List Value := l.flatMap (ncl1 M)
end NT
namespace NT
open IN (Keeps)
theorem blt_irr (a : ByteArray) : blt a a = false := by
  cases h : blt a a with
  | false => rfl
  | true => exact absurd ((NS.blt_iff a a).1 h) (List.lt_irrefl _)
theorem blt_tr {a b c : ByteArray} (h : blt a b = true) (k : blt b c = true) : blt a c = true := (NS.blt_iff a c).2 (List.lt_trans ((NS.blt_iff a b).1 h) ((NS.blt_iff b c).1 k))
theorem blt_tot {a b : ByteArray} (h : blt a b = false) (hne : a ≠ b) : blt b a = true := by
  rw [NS.blt_iff]
  have h1 : ¬ a.data.toList < b.data.toList := fun e => by rw [(NS.blt_iff a b).2 e] at h; cases h
  have h2 : b.data.toList ≤ a.data.toList := List.not_lt.1 h1
  rcases List.le_iff_lt_or_eq.1 h2 with h3 | h3
  · exact h3
  · exact absurd (ByteArray.ext (Array.toList_inj.1 h3)).symm hne
def Asc (l : List (ByteArray × Int)) : Prop := l.Pairwise fun a b => blt a.1 b.1 = true
def lcl (D : Ds) (l : List (ByteArray × Int)) : List Value := l.flatMap fun x => [.string x.1, .int .i64 x.2, .int .i64 (if D x.2 = none then 1 else 2)]
def listR (D : Ds) (s : ByteArray) : Except Int (List (ByteArray × Int)) := match findR D s with
  | .error e => .error e
  | .ok n => match D n with
    | none => .error 13
    | some d => .ok d.l
def li : Except Int (List (ByteArray × Int)) → List (ByteArray × Int)
  | .ok l => l
  | .error _ => []
section
variable {base : Nat} {w w' : World} {tg sg mb : Nat} {A : Int → Option (Nat × Nat)} {D : Ds}
end
end NT
namespace NT
open IN (Keeps)
def ulc (D : Ds) (k : ByteArray) (d : Bool) (m : Int) : Int := if PM.name k = false then 14 else match at_ D m k with
  | none => 11
  | some x => if D x ≠ none then 14 else if d = true then 13 else 0
def rmc (D : Ds) (k : ByteArray) (m : Int) : Int := if k = PM.dot then 2 else if k = PM.dots then 15 else match at_ D m k with
  | none => 11
  | some x => match D x with
    | none => 13
    | some dx => if dx.l ≠ [] then 15 else 0
def cutR (D : Ds) (s : ByteArray) (r : Int) (c : Int → Int) : Except Int Int := if PM.perr s = 0 then placeC D (PM.pN s) r c else .error (PM.perr s)
def unlR (D : Ds) (s : ByteArray) : Except Int Int := cutR D s 14 (ulc D (last (PM.pN s)) (PM.pD s))
def rmdR (D : Ds) (s : ByteArray) : Except Int Int := cutR D s 2 (rmc D (last (PM.pN s)))
def cutD (D : Ds) (p : Int) (k : ByteArray) : Ds := fun x => if x = p then (D p).map (fun d => { d with l := del k d.l }) else D x
theorem place_dir2 {D : Ds} {l : List ByteArray} {r m : Int} (h : place D l r = .ok m) : ∃ d, D m = some d := by
  unfold place at h
  split at h
  · cases h
  · split at h
    · cases h
    · split at h
      · cases h
      · rename_i hne
        cases h
        exact Option.ne_none_iff_exists'.1 hne
theorem placeC_ok {D : Ds} {l : List ByteArray} {r m : Int} {c : Int → Int} (h : placeC D l r c = .ok m) : place D l r = .ok m ∧ c m = 0 := by
  unfold placeC at h
  split at h
  · cases h
  · split at h
    · rename_i he hc
      cases h
      exact ⟨he, hc⟩
    · cases h
section
variable {base : Nat} {w w' : World} {tg sg mb : Nat} {A : Int → Option (Nat × Nat)} {D : Ds}
end
end NT
namespace NT
open IN (Keeps)
section
variable {base : Nat} {w w' : World} {tg sg mb I L B q : Nat} {A : Int → Option (Nat × Nat)} {D : Ds} {M : Int → Option Nat} {S : Int → Option IN.Nd}
def Num64 (D : Ds) : Prop := ∀ m d, D m = some d → ∀ k j, look k d.l = some j → IS.I64 j
theorem at_look {D : Ds} {p j : Int} {k : ByteArray} (h : at_ D p k = some j) : ∃ d, D p = some d ∧ look k d.l = some j := by
  unfold at_ at h
  split at h
  · cases h
  · rename_i d hd
    exact ⟨d, hd, h⟩
end
end NT
namespace NT
open IN (Keeps)
section
variable {base : Nat} {w w' : World} {tg sg mb : Nat} {A : Int → Option (Nat × Nat)} {D : Ds}
end
end NT
namespace NT
open IN (Keeps)
section
variable {base : Nat} {w w' : World} {tg sg mb : Nat} {A : Int → Option (Nat × Nat)} {D : Ds}
open Classical in
noncomputable def far (D : Ds) (n : Int) : Nat := if h : ∃ k, Reach D k n then Classical.choose h else 0
theorem far_reach {D : Ds} {n : Int} {k : Nat} (h : Reach D k n) : far D n = k := by
  have he : ∃ k, Reach D k n := ⟨k, h⟩
  unfold far
  rw [dif_pos he]
  exact reach_one (Classical.choose_spec he) h
def src (D : Ds) (s : ByteArray) : Except Int Int := place D (PM.pN s) 2
noncomputable def dst (D : Ds) (s t : ByteArray) (pf : Int) : Except Int Int := placeC D (PM.pN t) 2 (fun p => movV D (far D p) pf (last (PM.pN s)) (PM.pD s) p (last (PM.pN t)) (PM.pD t))
end
end NT
end Go.Proofs.YtfhidjkhmjdioaaGreat

namespace Go.Proofs.YtfhidjkhmjdioaaGreat
set_option linter.unusedVariables false
set_option linter.unusedSimpArgs false
namespace NT
theorem ins_perm (k : ByteArray) (n : Int) : ∀ l, (ins k n l).Perm ((k, n) :: l)
  | [] => .refl _
  | x :: l => by
    unfold ins
    split
    · exact ((ins_perm k n l).cons x).trans (List.Perm.swap _ _ _)
    · exact .refl _
theorem del_none {k : ByteArray} : ∀ {l}, look k l = none → del k l = l
  | [], _ => rfl
  | x :: l, h => by
    have hx : x.1 ≠ k := fun e => by simp [look, e] at h
    have hl : look k l = none := by simpa [look, hx] using h
    have ih := del_none hl
    unfold del at ih ⊢
    rw [List.filter_cons_of_pos (by simp [hx]), ih]
theorem asc_tail {x : ByteArray × Int} {l : List (ByteArray × Int)} (h : Asc (x :: l)) : Asc l := (List.pairwise_cons.1 h).2
theorem asc_look {x : ByteArray × Int} {l : List (ByteArray × Int)} (h : Asc (x :: l)) : look x.1 l = none := by
  cases e : look x.1 l with
  | none => rfl
  | some n =>
    have := (List.pairwise_cons.1 h).1 _ (look_mem e)
    rw [blt_irr] at this; cases this
theorem del_perm {k : ByteArray} {m : Int} : ∀ {l}, Asc l → look k l = some m → l.Perm ((k, m) :: del k l)
  | [], _, h => by cases h
  | x :: l, ha, h => by
    unfold look at h
    split at h
    · rename_i e
      cases h
      subst e
      have h1 := del_none (asc_look ha)
      unfold del at h1 ⊢
      rw [List.filter_cons_of_neg (by simp), h1]
    · rename_i e
      have h1 := del_perm (asc_tail ha) h
      have h2 : del k (x :: l) = x :: del k l := by unfold del; rw [List.filter_cons_of_pos (by simp [e])]
      rw [h2]
      exact (h1.cons x).trans (List.Perm.swap _ _ _)
theorem asc_del {l : List (ByteArray × Int)} (k : ByteArray) (h : Asc l) : Asc (del k l) := List.Pairwise.filter _ h
theorem asc_ins {k : ByteArray} {n : Int} : ∀ {l}, Asc l → look k l = none → Asc (ins k n l)
  | [], _, _ => List.pairwise_singleton _ _
  | x :: l, ha, h => by
    have hx : x.1 ≠ k := fun e => by simp [look, e] at h
    have hl : look k l = none := by simpa [look, hx] using h
    obtain ⟨h1, h2⟩ := List.pairwise_cons.1 ha
    unfold ins
    split
    · rename_i hb
      refine List.pairwise_cons.2 ⟨fun y hy => ?_, asc_ins h2 hl⟩
      rcases List.mem_cons.1 ((ins_perm k n l).mem_iff.1 hy) with rfl | hy
      · exact hb
      · exact h1 y hy
    · rename_i hb
      have hkx : blt k x.1 = true := blt_tot (by simpa using hb) hx
      refine List.pairwise_cons.2 ⟨fun y hy => ?_, ha⟩
      rcases List.mem_cons.1 hy with rfl | hy
      · exact hkx
      · exact blt_tr hkx (h1 y hy)
theorem asc_put {k : ByteArray} {n : Int} {l : List (ByteArray × Int)} (h : Asc l) : Asc (put k n l) := asc_ins (asc_del k h) (by rw [look_del, if_pos rfl])
theorem put_len {k : ByteArray} {n : Int} {l : List (ByteArray × Int)} : (put k n l).length ≤ l.length + 1 := by
  unfold put
  rw [(ins_perm k n _).length_eq, List.length_cons]
  have := del_len k l
  omega
def cntL (j : Int) (l : List (ByteArray × Int)) : Nat := l.countP fun x => decide (x.2 = j)
theorem cntL_cons (j : Int) (k : ByteArray) (n : Int) (l : List (ByteArray × Int)) : cntL j ((k, n) :: l) = cntL j l + (if n = j then 1 else 0) := by
  unfold cntL
  rw [List.countP_cons]
  simp
theorem cntL_put {k : ByteArray} {l : List (ByteArray × Int)} (j n : Int) (h : look k l = none) : cntL j (put k n l) = cntL j l + (if n = j then 1 else 0) := by
  unfold put
  rw [del_none h, ← cntL_cons j k n l]
  exact (ins_perm k n l).countP_eq _
theorem cntL_del {k : ByteArray} {m : Int} {l : List (ByteArray × Int)} (ha : Asc l) (h : look k l = some m) (j : Int) : cntL j l = cntL j (del k l) + (if m = j then 1 else 0) := by
  rw [← cntL_cons j k m]
  exact (del_perm ha h).countP_eq _
theorem cntL_pos {k : ByteArray} {j : Int} {l : List (ByteArray × Int)} (h : look k l = some j) : 1 ≤ cntL j l := List.countP_pos_iff.2 ⟨_, look_mem h, by simp⟩
def cl (D : Ds) (n : Int) (j : Int) : Nat := match D n with | none => 0 | some d => cntL j d.l
def cnt (D : Ds) (j : Int) : Nat → Nat
  | 0 => 0
  | n + 1 => cnt D j n + cl D ((n : Int) + 1) j
theorem cnt_same {D D' : Ds} {j : Int} : ∀ {N : Nat}, (∀ x : Int, 1 ≤ x → x ≤ N → cl D' x j = cl D x j) → cnt D' j N = cnt D j N
  | 0, _ => rfl
  | N + 1, h => by
    unfold cnt
    rw [cnt_same (N := N) fun x h1 h2 => h x h1 (by omega), h ((N : Int) + 1) (by omega) (by omega)]
theorem cnt_turn {D D' : Ds} {j p : Int} : ∀ {N : Nat}, 1 ≤ p → p ≤ N → (∀ x : Int, x ≠ p → cl D' x j = cl D x j) → cnt D' j N + cl D p j = cnt D j N + cl D' p j
  | 0, h1, h2, _ => by omega
  | N + 1, h1, h2, h => by
    unfold cnt
    by_cases e : p = (N : Int) + 1
    · subst e
      rw [cnt_same (N := N) fun x h3 h4 => h x (by omega)]
      omega
    · have := cnt_turn (N := N) h1 (by omega) h
      rw [h ((N : Int) + 1) (fun e2 => e e2.symm)]
      omega
theorem cnt_ge {D : Ds} {j p : Int} : ∀ {N : Nat}, 1 ≤ p → p ≤ N → cl D p j ≤ cnt D j N
  | 0, h1, h2 => by omega
  | N + 1, h1, h2 => by
    unfold cnt
    by_cases e : p = (N : Int) + 1
    · subst e; omega
    · have := cnt_ge (D := D) (j := j) (N := N) h1 (by omega)
      omega
theorem reach_keep {D D' : Ds} (h : ∀ n d, D n = some d → ∃ d', D' n = some d' ∧ d'.up = d.up) : ∀ {k : Nat} {n : Int}, Reach D k n → Reach D' k n
  | 0, n, hr => hr
  | k + 1, n, hr => by
    obtain ⟨h1, x, hx, hr⟩ := hr
    obtain ⟨d', hd', hu⟩ := h n x hx
    exact ⟨h1, d', hd', by rw [hu]; exact reach_keep h hr⟩
end NT
namespace NT
def ad (e : Int → Int) (j v : Int) : Int → Int := fun x => if x = j then e x + v else e x
theorem ad_at {e : Int → Int} {j v : Int} : ad e j v j = e j + v := if_pos rfl
theorem ad_ne {e : Int → Int} {j v x : Int} (h : x ≠ j) : ad e j v x = e x := if_neg h
structure TI (I c : Nat) (e : Int → Int) (S : Int → Option IN.Nd) (D : Ds) : Prop where
  root : ∃ d, D 1 = some d ∧ d.up = 1
  num : ∀ n, S n ≠ none → 1 ≤ n ∧ n ≤ (I : Int)
  kind : ∀ n, D n ≠ none ↔ ∃ x, S n = some x ∧ x.kind = 2
  one : ∀ n x, S n = some x → x.kind = 2 → x.links = 1
  links : ∀ j x, S j = some x → (0 ≤ x.opens ∧ (x.kind = 2 → x.opens = 0)) ∧ x.links = (cnt D j I : Int) + (if j = 1 then 1 else 0) + e j
  gone : ∀ j, S j = none → cnt D j I = 0 ∧ e j = 0
  ent : ∀ n d k j, D n = some d → look k d.l = some j → PM.name k = true ∧ ∀ dj, D j = some dj → dj.up = n
  up : ∀ j dj, D j = some dj → ∃ d, D dj.up = some d
  asc : ∀ n d, D n = some d → Asc d.l ∧ d.l.length ≤ c
  reach : ∀ n d, D n = some d → ∃ k, Reach D k n
section
variable {I c : Nat} {e : Int → Int} {S : Int → Option IN.Nd} {D : Ds}
theorem TI.congr (h : TI I c e S D) {e' : Int → Int} (he : ∀ j, e' j = e j) : TI I c e' S D := by
  have : e' = e := funext he
  rw [this]; exact h
theorem TI.more (h : TI I c e S D) {c' : Nat} (hc : c ≤ c') : TI I c' e S D := ⟨h.root, h.num, h.kind, h.one, h.links, h.gone, h.ent, h.up, fun n d hD => ⟨(h.asc n d hD).1, Nat.le_trans (h.asc n d hD).2 hc⟩, h.reach⟩
theorem TI.dir (h : TI I c e S D) {n : Int} {d : Dr} (hD : D n = some d) : ∃ x, S n = some x ∧ x.kind = 2 ∧ x.links = 1 ∧ 1 ≤ n ∧ n ≤ (I : Int) := by
  obtain ⟨x, hx, hk⟩ := (h.kind n).1 (by rw [hD]; simp)
  exact ⟨x, hx, hk, h.one n x hx hk, h.num n (by rw [hx]; simp)⟩
theorem cl_pos {D : Ds} {n j : Int} {k : ByteArray} (h : at_ D n k = some j) : 1 ≤ cl D n j := by
  obtain ⟨d, hD, hl⟩ := at_look h
  unfold cl
  rw [hD]
  exact cntL_pos hl
theorem TI.cnt_pos (h : TI I c e S D) {n j : Int} {k : ByteArray} (hj : at_ D n k = some j) : 1 ≤ cnt D j I := by
  obtain ⟨d, hD, hl⟩ := at_look hj
  obtain ⟨-, -, -, -, h1, h2⟩ := h.dir hD
  exact Nat.le_trans (cl_pos hj) (cnt_ge h1 h2)
theorem TI.has (h : TI I c e S D) {n j : Int} {k : ByteArray} (hj : at_ D n k = some j) : S j ≠ none := fun e2 => by
  have := h.cnt_pos hj
  have := (h.gone j e2).1
  omega
theorem cutD_at {D : Ds} {p : Int} {d : Dr} (hD : D p = some d) (k : ByteArray) : cutD D p k p = some { d with l := del k d.l } := by unfold cutD; rw [if_pos rfl, hD]; rfl
theorem cutD_ne {D : Ds} {p x : Int} (h : x ≠ p) (k : ByteArray) : cutD D p k x = D x := if_neg h
theorem TI.cut (h : TI I c e S D) {p m : Int} {k : ByteArray} (hm : at_ D p k = some m) : TI I c (ad e m 1) S (cutD D p k) := by
  obtain ⟨d, hD, hl⟩ := at_look hm
  obtain ⟨-, -, -, -, p1, p2⟩ := h.dir hD
  have hcl : ∀ j, cl D p j = cl (cutD D p k) p j + (if m = j then 1 else 0) := fun j => by
    unfold cl
    rw [cutD_at hD, hD]
    exact cntL_del (h.asc p d hD).1 hl j
  have hcnt : ∀ j, cnt D j I = cnt (cutD D p k) j I + (if m = j then 1 else 0) := fun j => by
    have h1 := cnt_turn (D := D) (D' := cutD D p k) (j := j) (p := p) (N := I) p1 p2 fun x hx => by unfold cl; rw [cutD_ne hx]
    have h2 := hcl j
    omega
  have hold : ∀ n d', cutD D p k n = some d' → ∃ d0, D n = some d0 ∧ d'.up = d0.up ∧ (d'.l = d0.l ∨ d'.l = del k d0.l) := fun n d' hd => by
    by_cases hn : n = p
    · subst hn
      rw [cutD_at hD] at hd
      cases hd
      exact ⟨d, hD, rfl, .inr rfl⟩
    · rw [cutD_ne hn] at hd
      exact ⟨d', hd, rfl, .inl rfl⟩
  have hnew : ∀ n d0, D n = some d0 → ∃ d', cutD D p k n = some d' ∧ d'.up = d0.up := fun n d0 hd => by
    by_cases hn : n = p
    · subst hn
      rw [hD] at hd
      cases hd
      exact ⟨_, cutD_at hD k, rfl⟩
    · exact ⟨d0, by rw [cutD_ne hn]; exact hd, rfl⟩
  refine ⟨?_, h.num, fun n => ?_, h.one, fun j x hx => ?_, fun j hj => ?_, fun n d' k' j hd hlk => ?_, fun j dj hd => ?_, fun n d' hd => ?_, fun n d' hd => ?_⟩
  · obtain ⟨d0, h0, h1⟩ := h.root
    obtain ⟨d', h2, h3⟩ := hnew 1 d0 h0
    exact ⟨d', h2, by rw [h3, h1]⟩
  · rw [← h.kind n]
    constructor
    · intro hn hno
      cases hd : cutD D p k n with
      | none => exact hn hd
      | some d' =>
        obtain ⟨d0, h0, -⟩ := hold n d' hd
        rw [h0] at hno; cases hno
    · intro hn hno
      obtain ⟨d0, h0⟩ := Option.ne_none_iff_exists'.1 hn
      obtain ⟨d', h2, -⟩ := hnew n d0 h0
      rw [h2] at hno; cases hno
  · obtain ⟨h1, h2⟩ := h.links j x hx
    refine ⟨h1, ?_⟩
    rw [h2, hcnt j]
    by_cases hj : m = j
    · subst hj; rw [ad_at, if_pos rfl]; omega
    · rw [ad_ne (Ne.symm hj), if_neg hj]; omega
  · have h1 := h.gone j hj
    have h2 := hcnt j
    have hne : m ≠ j := fun e2 => h.has hm (by rw [e2]; exact hj)
    rw [if_neg hne] at h2
    rw [ad_ne hne.symm]
    exact ⟨by omega, h1.2⟩
  · obtain ⟨d0, h0, h1, h2⟩ := hold n d' hd
    have hlk0 : look k' d0.l = some j := by
      rcases h2 with h2 | h2
      · rw [← h2]; exact hlk
      · rw [h2, look_del] at hlk
        split at hlk
        · cases hlk
        · exact hlk
    obtain ⟨h3, h4⟩ := h.ent n d0 k' j h0 hlk0
    refine ⟨h3, fun dj hdj => ?_⟩
    obtain ⟨dj0, h5, h6, -⟩ := hold j dj hdj
    rw [h6]
    exact h4 dj0 h5
  · obtain ⟨d0, h0, h1, -⟩ := hold j dj hd
    obtain ⟨d2, h2⟩ := h.up j d0 h0
    obtain ⟨d3, h3, -⟩ := hnew _ d2 h2
    rw [h1]
    exact ⟨d3, h3⟩
  · obtain ⟨d0, h0, h1, h2⟩ := hold n d' hd
    obtain ⟨h3, h4⟩ := h.asc n d0 h0
    rcases h2 with h2 | h2
    · rw [h2]; exact ⟨h3, h4⟩
    · rw [h2]; exact ⟨asc_del k h3, Nat.le_trans (del_len k _) h4⟩
  · obtain ⟨d0, h0, -⟩ := hold n d' hd
    obtain ⟨q, hq⟩ := h.reach n d0 h0
    exact ⟨q, reach_keep hnew hq⟩
def putD (D : Ds) (p : Int) (k : ByteArray) (n : Int) : Ds := fun x => if x = p then (D p).map (fun d => { d with l := put k n d.l }) else D x
theorem putD_at {D : Ds} {p : Int} {d : Dr} (hD : D p = some d) (k : ByteArray) (n : Int) : putD D p k n p = some { d with l := put k n d.l } := by unfold putD; rw [if_pos rfl, hD]; rfl
theorem putD_ne {D : Ds} {p x : Int} (h : x ≠ p) (k : ByteArray) (n : Int) : putD D p k n x = D x := if_neg h
theorem TI.put (h : TI I c e S D) {p n : Int} {d : Dr} {k : ByteArray} (hD : D p = some d) (hl : look k d.l = none) (hk : PM.name k = true) (hn : S n ≠ none) (hup : ∀ dn, D n = some dn → dn.up = p) : TI I (c + 1) (ad e n (-1)) S (putD D p k n) := by
  obtain ⟨-, -, -, -, p1, p2⟩ := h.dir hD
  have hcl : ∀ j, cl (putD D p k n) p j = cl D p j + (if n = j then 1 else 0) := fun j => by
    unfold cl
    rw [putD_at hD, hD]
    exact cntL_put j n hl
  have hcnt : ∀ j, cnt (putD D p k n) j I = cnt D j I + (if n = j then 1 else 0) := fun j => by
    have h1 := cnt_turn (D := D) (D' := putD D p k n) (j := j) (p := p) (N := I) p1 p2 fun x hx => by unfold cl; rw [putD_ne hx]
    have h2 := hcl j
    omega
  have hold : ∀ m d', putD D p k n m = some d' → ∃ d0, D m = some d0 ∧ d'.up = d0.up ∧ (d'.l = d0.l ∨ m = p ∧ d'.l = NT.put k n d0.l) := fun m d' hd => by
    by_cases hm : m = p
    · subst hm
      rw [putD_at hD] at hd
      cases hd
      exact ⟨d, hD, rfl, .inr ⟨rfl, rfl⟩⟩
    · rw [putD_ne hm] at hd
      exact ⟨d', hd, rfl, .inl rfl⟩
  have hnew : ∀ m d0, D m = some d0 → ∃ d', putD D p k n m = some d' ∧ d'.up = d0.up := fun m d0 hd => by
    by_cases hm : m = p
    · subst hm
      rw [hD] at hd
      cases hd
      exact ⟨_, putD_at hD k n, rfl⟩
    · exact ⟨d0, by rw [putD_ne hm]; exact hd, rfl⟩
  refine ⟨?_, h.num, fun m => ?_, h.one, fun j x hx => ?_, fun j hj => ?_, fun m d' k' j hd hlk => ?_, fun j dj hd => ?_, fun m d' hd => ?_, fun m d' hd => ?_⟩
  · obtain ⟨d0, h0, h1⟩ := h.root
    obtain ⟨d', h2, h3⟩ := hnew 1 d0 h0
    exact ⟨d', h2, by rw [h3, h1]⟩
  · rw [← h.kind m]
    constructor
    · intro hn hno
      cases hd : putD D p k n m with
      | none => exact hn hd
      | some d' =>
        obtain ⟨d0, h0, -⟩ := hold m d' hd
        rw [h0] at hno; cases hno
    · intro hn hno
      obtain ⟨d0, h0⟩ := Option.ne_none_iff_exists'.1 hn
      obtain ⟨d', h2, -⟩ := hnew m d0 h0
      rw [h2] at hno; cases hno
  · obtain ⟨h1, h2⟩ := h.links j x hx
    refine ⟨h1, ?_⟩
    rw [h2, hcnt j]
    by_cases hj : n = j
    · subst hj; rw [ad_at, if_pos rfl]; omega
    · rw [ad_ne (Ne.symm hj), if_neg hj]; omega
  · have h1 := h.gone j hj
    have h2 := hcnt j
    have hne : n ≠ j := fun e2 => hn (by rw [e2]; exact hj)
    rw [if_neg hne] at h2
    rw [ad_ne hne.symm]
    exact ⟨by omega, h1.2⟩
  · obtain ⟨d0, h0, h1, h2⟩ := hold m d' hd
    have hin : (k' = k ∧ j = n ∧ m = p) ∨ look k' d0.l = some j := by
      rcases h2 with h2 | ⟨h3, h2⟩
      · rw [← h2]; exact .inr hlk
      · rw [h2, look_put] at hlk
        split at hlk
        · rename_i hkk
          cases hlk
          exact .inl ⟨hkk, rfl, h3⟩
        · exact .inr hlk
    have hfin : PM.name k' = true ∧ ∀ dj, D j = some dj → dj.up = m := by
      rcases hin with ⟨rfl, rfl, rfl⟩ | hin
      · exact ⟨hk, hup⟩
      · exact h.ent m d0 k' j h0 hin
    refine ⟨hfin.1, fun dj hdj => ?_⟩
    obtain ⟨dj0, h5, h6, -⟩ := hold j dj hdj
    rw [h6]
    exact hfin.2 dj0 h5
  · obtain ⟨d0, h0, h1, -⟩ := hold j dj hd
    obtain ⟨d2, h2⟩ := h.up j d0 h0
    obtain ⟨d3, h3, -⟩ := hnew _ d2 h2
    rw [h1]
    exact ⟨d3, h3⟩
  · obtain ⟨d0, h0, h1, h2⟩ := hold m d' hd
    obtain ⟨h3, h4⟩ := h.asc m d0 h0
    rcases h2 with h2 | ⟨-, h2⟩
    · rw [h2]; exact ⟨h3, by omega⟩
    · rw [h2]
      have := put_len (k := k) (n := n) (l := d0.l)
      exact ⟨asc_put h3, by omega⟩
  · obtain ⟨d0, h0, -⟩ := hold m d' hd
    obtain ⟨q, hq⟩ := h.reach m d0 h0
    exact ⟨q, reach_keep hnew hq⟩
end
end NT
namespace NT
section
variable {I c : Nat} {e : Int → Int} {S : Int → Option IN.Nd} {D : Ds}
def upD (D : Ds) (n p : Int) : Ds := fun x => if x = n then (D n).map (fun d => { d with up := p }) else D x
theorem TI.newFile (h : TI I c e S D) {n : Int} (hn : S n = none) (h1 : 1 ≤ n) (h2 : n ≤ (I : Int)) : TI I c (ad e n 1) (IN.upd S n (some (IN.newNd 1))) D := by
  obtain ⟨g1, g2⟩ := h.gone n hn
  have hn1 : n ≠ 1 := fun e2 => by
    obtain ⟨d, h3, -⟩ := h.root
    obtain ⟨x, hx, -⟩ := h.dir h3
    rw [← e2, hn] at hx; cases hx
  have hDn : D n = none := by
    cases hD : D n with
    | none => rfl
    | some d =>
      obtain ⟨x, hx, -⟩ := h.dir hD
      rw [hn] at hx; cases hx
  refine ⟨h.root, fun m hm => ?_, fun m => ?_, fun m y hy hk => ?_, fun m y hy => ?_, fun m hm => ?_, h.ent, h.up, h.asc, h.reach⟩
  · by_cases e2 : m = n
    · subst e2; exact ⟨h1, h2⟩
    · rw [IN.upd_ne e2] at hm; exact h.num m hm
  · by_cases e2 : m = n
    · subst e2
      rw [IN.upd_at, hDn]
      constructor
      · intro h3; exact absurd rfl h3
      · rintro ⟨y, hy, hk⟩; cases hy; cases hk
    · rw [IN.upd_ne e2]; exact h.kind m
  · by_cases e2 : m = n
    · subst e2; rw [IN.upd_at] at hy; cases hy; cases hk
    · rw [IN.upd_ne e2] at hy; exact h.one m y hy hk
  · by_cases e2 : m = n
    · subst e2
      rw [IN.upd_at] at hy
      cases hy
      refine ⟨⟨Int.le_refl _, fun _ => rfl⟩, ?_⟩
      rw [ad_at, g1, g2, if_neg hn1]
      rfl
    · rw [IN.upd_ne e2] at hy
      rw [ad_ne e2]
      exact h.links m y hy
  · by_cases e2 : m = n
    · subst e2; rw [IN.upd_at] at hm; cases hm
    · rw [IN.upd_ne e2] at hm
      rw [ad_ne e2]
      exact h.gone m hm
end
end NT
namespace NT
section
variable {I L c : Nat} {S : Int → Option IN.Nd} {D : Ds}
abbrev e0 : Int → Int := fun _ => 0
theorem at_none {D : Ds} {p : Int} {d : Dr} {k : ByteArray} (hD : D p = some d) (h : at_ D p k = none) : look k d.l = none := by unfold at_ at h; rw [hD] at h; exact h
theorem vac_ok {D : Ds} {kind p : Int} {s : ByteArray} (h : vacant D kind s = .ok p) : (∃ d, D p = some d) ∧ at_ D p (last (PM.pN s)) = none ∧ PM.name (last (PM.pN s)) = true := by
  obtain ⟨h1, h2⟩ := placeC_ok h
  refine ⟨place_dir2 h1, ?_⟩
  unfold vac at h2
  split at h2
  · cases h2
  · rename_i h3
    simp only [not_or, ne_eq, Decidable.not_not, Bool.not_eq_false] at h3
    exact h3
theorem mkD_file {D : Ds} {p n : Int} {k : ByteArray} : mkD D p k n 1 = putD D p k n := by
  funext m
  unfold mkD putD
  by_cases h : m = p
  · rw [if_pos h, if_pos h]
  · rw [if_neg h, if_neg h, if_neg (fun h2 => by have := h2.2; omega)]
theorem ad_zero (n : Int) (j : Int) : e0 j = ad (ad e0 n 1) n (-1) j := by
  unfold ad e0
  by_cases h : j = n <;> simp [h]
theorem TI.noD (h : TI I c e0 S D) {n : Int} (hn : S n = none) : D n = none := by
  cases hD : D n with
  | none => rfl
  | some d =>
    obtain ⟨x, hx, -⟩ := h.dir hD
    rw [hn] at hx; cases hx
theorem TI.mkFile (h : TI I c e0 S D) {s : ByteArray} {p n : Int} (hv : vacant D 1 s = .ok p) (hn : S n = none) (h1 : 1 ≤ n) (h2 : n ≤ (I : Int)) : TI I (c + 1) e0 (IN.upd S n (some (IN.newNd 1))) (mkD D p (last (PM.pN s)) n 1) := by
  obtain ⟨⟨d, hD⟩, h3, h4⟩ := vac_ok hv
  rw [mkD_file]
  exact ((h.newFile hn h1 h2).put hD (at_none hD h3) h4 (by rw [IN.upd_at]; simp) (fun dn hdn => by rw [h.noD hn] at hdn; cases hdn)).congr (ad_zero n)
theorem TI.free (h : TI I c e0 S D) {n : Int} (hn : S n = none) : Free D n := fun m d hD => by
  refine ⟨fun e2 => ?_, fun k hk => ?_⟩
  · obtain ⟨d2, h2⟩ := h.up m d hD
    rw [e2, h.noD hn] at h2; cases h2
  · exact h.has (n := m) (k := k) (j := n) (by unfold at_; rw [hD]; exact hk) hn
theorem TI.alone (h : TI I c e0 S D) {E : Ds} {j : Int} (he : D = upd E j none) (hj : S j = none) : ∀ m d, E m = some d → m ≠ j → d.up ≠ j ∧ ∀ k, look k d.l ≠ some j := fun m d hd hm => by
  have : D m = some d := by rw [he, upd_ne hm]; exact hd
  exact h.free hj m d this
end
end NT
end Go.Proofs.YtfhidjkhmjdioaaGreat

namespace Go.Proofs.YtfhidjkhmjdioaaGreat
open Go.ChangeShapes Go.WideShapes Go.ChangeAt Go.RowKit Go.Maps
set_option linter.unusedVariables false
set_option linter.unusedSimpArgs false
namespace NT
open IN (Keeps)
structure TW (base tg sg mb I L B q c : Nat) (A : Int → Option (Nat × Nat)) (S : Int → Option IN.Nd) (D : Ds) (w : World) : Prop where
  tm : TM base w tg sg mb A D
  ps : ∃ M, IN.PS base w sg mb M I L B q S
  ti : TI I c e0 S D
def TP (base tg sg mb I L B q c : Nat) (A : Int → Option (Nat × Nat)) (S : Int → Option IN.Nd) (D : Ds) (w w' : World) : Prop := (∃ A', TW base tg sg mb I L B q c A' S D w') ∧ Keeps base (FT A mb) w w'
section
variable {base : Nat} {w w' : World} {tg sg mb I L B q c : Nat} {A : Int → Option (Nat × Nat)} {D : Ds} {S : Int → Option IN.Nd}
theorem TW.more (h : TW base tg sg mb I L B q c A S D w) {c' : Nat} (hc : c ≤ c') : TW base tg sg mb I L B q c' A S D w := ⟨h.tm, h.ps, h.ti.more hc⟩
theorem TW.keep (h : TW base tg sg mb I L B q c A S D w) (hb : Below w.heap.size w w') : TW base tg sg mb I L B q c A S D w' := ⟨h.tm.keep hb, by obtain ⟨M, hM⟩ := h.ps; exact ⟨M, hM.keep hb⟩, h.ti⟩
theorem TW.same (h : TW base tg sg mb I L B q c A S D w) (hb : Below w.heap.size w w') : TP base tg sg mb I L B q (c + 1) A S D w w' := ⟨⟨A, (h.keep hb).more (by omega)⟩, Keeps.new hb h.tm.low⟩
theorem TI.few (h : TI I c e0 S D) (hc : c < 65535) : ∀ n d, D n = some d → d.l.length < 65535 := fun n d hd => by have := (h.asc n d hd).2; omega
theorem TI.far (h : TI I c e0 S D) : ∀ n d, D n = some d → Reach D (NT.far D n) n := fun n d hd => by
  obtain ⟨k, hk⟩ := h.reach n d hd
  rw [far_reach hk]; exact hk
theorem TI.step_in (h : TI I c e0 S D) {n m : Int} {x : ByteArray} (hs : step D n x = .ok m) : S m ≠ none := by
  unfold step at hs
  cases hD : D n with
  | none => rw [hD] at hs; cases hs
  | some d =>
    rw [hD] at hs
    simp only at hs
    split at hs
    · cases hs
      obtain ⟨y, hy, -⟩ := h.dir hD
      rw [hy]; simp
    · split at hs
      · cases hs
        obtain ⟨d2, h2⟩ := h.up n d hD
        obtain ⟨y, hy, -⟩ := h.dir h2
        rw [hy]; simp
      · cases hl : look x d.l with
        | none => rw [hl] at hs; cases hs
        | some j =>
          rw [hl] at hs
          cases hs
          exact h.has (n := n) (k := x) (by unfold at_; rw [hD]; exact hl)
theorem TI.goes_in (h : TI I c e0 S D) : ∀ {l : List ByteArray} {n m : Int}, S n ≠ none → goes D n l = .ok m → S m ≠ none
  | [], n, m, hn, hg => by cases hg; exact hn
  | x :: l, n, m, hn, hg => by
    unfold goes at hg
    split at hg
    · cases hg
    · rename_i m2 h2
      exact h.goes_in (h.step_in h2) hg
theorem TI.find_in (h : TI I c e0 S D) {l : List ByteArray} {d : Bool} {n : Int} (hf : find D l d = .ok n) : S n ≠ none := by
  unfold find at hf
  split at hf
  · cases hf
  · rename_i m hg
    split at hf
    · cases hf
    · cases hf
      obtain ⟨d1, h1, -⟩ := h.root
      obtain ⟨x, hx, -⟩ := h.dir h1
      exact h.goes_in (by rw [hx]; simp) hg
theorem TI.i64 (h : TI I c e0 S D) (hI : I ≤ 4096) {n : Int} (hn : S n ≠ none) : IS.I64 n := by
  have := h.num n hn
  unfold IS.I64
  omega
theorem TW.lim (h : TW base tg sg mb I L B q c A S D w) : I ≤ 4096 := by
  obtain ⟨M, hM⟩ := h.ps
  exact hM.lim.1
theorem Find_all (s : ByteArray) (hs : s.size ≤ maxLen) (w : World) (h : TW base tg sg mb I L B q c A S D w) :
    Calls Tryz.prog 40 #[.pointer (some ⟨tg, 0, none⟩), .string s] w fun e w' => e = .returned (.tuple #[.int .i64 (nu (findR D s)), .int .i64 (er (findR D s))]) ∧ Below w.heap.size w w' := Find_any s hs w h.tm
def tgt (D : Ds) (p : Int) (s : ByteArray) : Int := (at_ D p (last (PM.pN s))).getD 0
def unlS (S : Int → Option IN.Nd) (D : Ds) (s : ByteArray) : (Int → Option IN.Nd) × Ds := match unlR D s with
  | .error _ => (S, D)
  | .ok p => (IN.ulS S (tgt D p s), cutD D p (last (PM.pN s)))
def rmdS (S : Int → Option IN.Nd) (D : Ds) (s : ByteArray) : (Int → Option IN.Nd) × Ds := match rmdR D s with
  | .error _ => (S, D)
  | .ok p => (IN.ulS S (tgt D p s), upd (cutD D p (last (PM.pN s))) (tgt D p s) none)
def lnk (L : Nat) (S : Int → Option IN.Nd) (D : Ds) (s t : ByteArray) : Int × (Int → Option IN.Nd) × Ds :=
  if PM.perr s ≠ 0 then (PM.perr s, S, D) else if PM.perr t ≠ 0 then (PM.perr t, S, D) else match find D (PM.pN s) (PM.pD s) with
  | .error e => (e, S, D)
  | .ok n => if D n ≠ none then (27, S, D) else match vacant D 1 t with
    | .error e => (e, S, D)
    | .ok p => if IN.lkR L S n = 0 then (0, IN.lkS L S n, putD D p (last (PM.pN t)) n) else (IN.lkR L S n, S, D)
end
end NT
end Go.Proofs.YtfhidjkhmjdioaaGreat

namespace Go.Proofs.YtfhidjkhmjdioaaGreat
set_option linter.unusedVariables false
set_option linter.unusedSimpArgs false
namespace DC
open IS (I64)
abbrev Ls := List (Option Nat)
abbrev Ps := List (Int × Ls)
abbrev Ou := Nat → Option Of
def lk (P : Ps) (p : Int) : Option Ls := (P.find? fun x => decide (x.1 = p)).map (·.2)
def cntL (k : Nat) (L : Ls) : Nat := L.countP fun x => decide (x = some k)
def cntP (k : Nat) : Ps → Nat
  | [] => 0
  | x :: r => cntL k x.2 + cntP k r
def setP (P : Ps) (p : Int) (L : Ls) : Ps := P.map fun x => if x.1 = p then (x.1, L) else x
def delP (P : Ps) (p : Int) : Ps := P.filter fun x => decide (x.1 ≠ p)
def insP (p : Int) (L : Ls) : Ps → Ps
  | [] => [(p, L)]
  | x :: r => if x.1 < p then x :: insP p L r else (p, L) :: x :: r
def updO (O : Ou) (k : Nat) (x : Option Of) : Ou := fun j => if j = k then x else O j
theorem updO_at (O : Ou) (k : Nat) (x : Option Of) : updO O k x k = x := if_pos rfl
theorem updO_ne {O : Ou} {k j : Nat} {x : Option Of} (h : j ≠ k) : updO O k x j = O j := if_neg h
def cntO (O : Ou) : Nat → Nat
  | 0 => 0
  | n + 1 => cntO O n + (if O n = none then 0 else 1)
def isOf (n : Int) : Option Of → Nat
  | none => 0
  | some o => if o.ino = n then 1 else 0
def opn (O : Ou) (n : Int) : Nat → Nat
  | 0 => 0
  | k + 1 => opn O n k + isOf n (O k)
/-! Lists of processes. -/
def Asc (P : Ps) : Prop := P.Pairwise fun a b => a.1 < b.1
theorem lk_cons (x : Int × Ls) (P : Ps) (p : Int) : lk (x :: P) p = if x.1 = p then some x.2 else lk P p := by
  unfold lk
  by_cases h : x.1 = p <;> simp [List.find?_cons, h]
theorem lk_nil (p : Int) : lk [] p = none := rfl
theorem lk_mem {P : Ps} {p : Int} {L : Ls} (h : lk P p = some L) : (p, L) ∈ P := by
  induction P with
  | nil => cases h
  | cons x P ih =>
    rw [lk_cons] at h
    split at h
    · rename_i e
      cases h
      subst e
      exact List.mem_cons_self
    · exact List.mem_cons_of_mem _ (ih h)
theorem lk_none {P : Ps} {p : Int} : lk P p = none ↔ ∀ x ∈ P, x.1 ≠ p := by
  induction P with
  | nil => simp [lk_nil]
  | cons x P ih =>
    rw [lk_cons]
    by_cases e : x.1 = p
    · simp [e]
    · simp [e, ih]
theorem asc_cons {x : Int × Ls} {P : Ps} (h : Asc (x :: P)) : Asc P ∧ lk P x.1 = none := by
  have := List.pairwise_cons.1 h
  exact ⟨this.2, lk_none.2 fun y hy e => by have := this.1 y hy; omega⟩
theorem lk_set {P : Ps} {p q : Int} {L : Ls} : lk (setP P p L) q = if q = p ∧ lk P p ≠ none then some L else lk P q := by
  induction P with
  | nil => simp [setP, lk_nil]
  | cons x P ih =>
    have hs : setP (x :: P) p L = (if x.1 = p then (x.1, L) else x) :: setP P p L := rfl
    rw [hs, lk_cons, lk_cons, lk_cons, ih]
    by_cases h1 : x.1 = p
    · by_cases h2 : q = p
      · subst h2; simp [h1]
      · have : ¬ p = q := fun e => h2 e.symm
        simp [h1, h2, this]
    · by_cases h2 : q = p
      · subst h2; simp [h1]
      · simp [h1, h2]
theorem lk_ins {P : Ps} {p q : Int} {L : Ls} (hp : lk P p = none) : lk (insP p L P) q = if q = p then some L else lk P q := by
  induction P with
  | nil =>
    simp only [insP, lk_cons, lk_nil]
    by_cases h : q = p
    · subst h; simp
    · have : ¬ p = q := fun e => h e.symm
      simp [h, this]
  | cons x P ih =>
    rw [lk_cons] at hp
    split at hp
    · cases hp
    · rename_i hne
      unfold insP
      split
      · rw [lk_cons, lk_cons, ih hp]
        by_cases h : q = p
        · subst h; simp [hne]
        · simp [h]
      · rw [lk_cons, lk_cons]
        by_cases h : q = p
        · subst h; simp
        · have : ¬ p = q := fun e => h e.symm
          simp [h, this]
theorem asc_set {P : Ps} {p : Int} {L : Ls} (h : Asc P) : Asc (setP P p L) := by
  unfold Asc setP
  rw [List.pairwise_map]
  refine h.imp fun {a b} hab => ?_
  split <;> split <;> simpa using hab
theorem asc_del {P : Ps} {p : Int} (h : Asc P) : Asc (delP P p) := List.Pairwise.filter _ h
theorem ins_mem {P : Ps} {p : Int} {L : Ls} {y : Int × Ls} (h : y ∈ insP p L P) : y = (p, L) ∨ y ∈ P := by
  induction P with
  | nil => simpa [insP] using h
  | cons x P ih =>
    unfold insP at h
    split at h
    · rcases List.mem_cons.1 h with rfl | h
      · exact .inr List.mem_cons_self
      · rcases ih h with e | e
        · exact .inl e
        · exact .inr (List.mem_cons_of_mem _ e)
    · rcases List.mem_cons.1 h with rfl | h
      · exact .inl rfl
      · exact .inr h
theorem asc_ins {P : Ps} {p : Int} {L : Ls} (h : Asc P) (hp : lk P p = none) : Asc (insP p L P) := by
  induction P with
  | nil => simp [insP, Asc]
  | cons x P ih =>
    have h1 := asc_cons h
    have hx := List.pairwise_cons.1 h
    rw [lk_cons] at hp
    split at hp
    · cases hp
    · rename_i hne
      unfold insP
      split
      · rename_i hlt
        refine List.pairwise_cons.2 ⟨fun y hy => ?_, ih h1.1 hp⟩
        rcases ins_mem hy with rfl | hy
        · exact hlt
        · exact hx.1 y hy
      · rename_i hge
        refine List.pairwise_cons.2 ⟨fun y hy => ?_, h⟩
        rcases List.mem_cons.1 hy with rfl | hy
        · show p < y.1
          omega
        · have := hx.1 y hy
          show p < y.1
          omega
theorem set_mem {P : Ps} {p : Int} {L : Ls} {y : Int × Ls} (h : y ∈ setP P p L) : y = (p, L) ∨ y ∈ P := by
  unfold setP at h
  obtain ⟨x, hx, rfl⟩ := List.mem_map.1 h
  split
  · rename_i e; subst e; exact .inl rfl
  · exact .inr hx
theorem del_mem {P : Ps} {p : Int} {y : Int × Ls} (h : y ∈ delP P p) : y ∈ P := (List.mem_filter.1 h).1
theorem set_len (P : Ps) (p : Int) (L : Ls) : (setP P p L).length = P.length := by simp [setP]
theorem del_len (P : Ps) (p : Int) : (delP P p).length ≤ P.length := List.length_filter_le _ _
theorem ins_len (P : Ps) (p : Int) (L : Ls) : (insP p L P).length = P.length + 1 := by
  induction P with
  | nil => rfl
  | cons x P ih =>
    unfold insP
    split
    · simp [ih]
    · simp
/-! Counts. -/
theorem cntP_set {P : Ps} {p : Int} {L L' : Ls} (ha : Asc P) (h : lk P p = some L) (k : Nat) : cntP k (setP P p L') + cntL k L = cntP k P + cntL k L' := by
  induction P with
  | nil => cases h
  | cons x P ih =>
    have hs : setP (x :: P) p L' = (if x.1 = p then (x.1, L') else x) :: setP P p L' := rfl
    rw [hs]
    rw [lk_cons] at h
    by_cases e : x.1 = p
    · rw [if_pos e] at h ⊢
      cases h
      have hn : setP P p L' = P := by
        unfold setP
        conv => rhs; rw [← List.map_id P]
        refine List.map_congr_left fun y hy => ?_
        rw [if_neg (lk_none.1 (asc_cons ha).2 y hy ∘ fun e' => e'.trans e.symm)]; rfl
      rw [hn]
      simp only [cntP]
      omega
    · rw [if_neg e] at h ⊢
      have := ih (asc_cons ha).1 h
      simp only [cntP]
      omega
theorem cntP_del {P : Ps} {p : Int} {L : Ls} (ha : Asc P) (h : lk P p = some L) (k : Nat) : cntP k (delP P p) + cntL k L = cntP k P := by
  induction P with
  | nil => cases h
  | cons x P ih =>
    rw [lk_cons] at h
    by_cases e : x.1 = p
    · rw [if_pos e] at h
      cases h
      have hn : delP (x :: P) p = P := by
        unfold delP
        rw [List.filter_cons, if_neg (by simp [e]), List.filter_eq_self.2 fun y hy => ?_]
        simpa using (lk_none.1 (asc_cons ha).2 y hy ∘ fun e' => e'.trans e.symm)
      rw [hn]
      simp only [cntP]
      omega
    · rw [if_neg e] at h
      have hs : delP (x :: P) p = x :: delP P p := by simp [delP, e]
      have := ih (asc_cons ha).1 h
      rw [hs]
      simp only [cntP]
      omega
theorem cntP_ins (P : Ps) (p : Int) (L : Ls) (k : Nat) : cntP k (insP p L P) = cntP k P + cntL k L := by
  induction P with
  | nil => simp [insP, cntP]
  | cons x P ih =>
    unfold insP
    split
    · simp only [cntP]; omega
    · simp only [cntP]; omega
theorem cntL_cons (k : Nat) (x : Option Nat) (L : Ls) : cntL k (x :: L) = cntL k L + (if x = some k then 1 else 0) := by
  unfold cntL
  rw [List.countP_cons]
  simp
theorem cntL_app (k : Nat) (L L' : Ls) : cntL k (L ++ L') = cntL k L + cntL k L' := List.countP_append
theorem cntL_set {L : Ls} {j : Nat} {x : Option Nat} (h : L[j]? = some x) (y : Option Nat) (k : Nat) : cntL k (L.set j y) + (if x = some k then 1 else 0) = cntL k L + (if y = some k then 1 else 0) := by
  induction L generalizing j with
  | nil => cases h
  | cons z L ih =>
    cases j with
    | zero =>
      simp only [List.getElem?_cons_zero, Option.some.injEq] at h
      subst h
      simp only [List.set_cons_zero, cntL_cons]
      omega
    | succ j =>
      have := ih (j := j) (by simpa using h)
      simp only [List.set_cons_succ, cntL_cons]
      omega
theorem cntL_rep (k n : Nat) : cntL k (List.replicate n none) = 0 := by
  unfold cntL
  rw [List.countP_eq_zero]
  intro x hx
  have := List.eq_of_mem_replicate hx
  subst this
  simp
theorem cntL_pos {k : Nat} {L : Ls} {j : Nat} (h : L[j]? = some (some k)) : 1 ≤ cntL k L := List.countP_pos_iff.2 ⟨_, List.mem_of_getElem? h, by simp⟩
theorem cntP_pos {k : Nat} {P : Ps} {p : Int} {L : Ls} (h : lk P p = some L) (hk : 1 ≤ cntL k L) : 1 ≤ cntP k P := by
  induction P with
  | nil => cases h
  | cons x P ih =>
    rw [lk_cons] at h
    simp only [cntP]
    split at h
    · cases h; omega
    · have := ih h; omega
theorem cntL_le (k : Nat) (L : Ls) : cntL k L ≤ L.length := List.countP_le_length
theorem cntP_le {f : Nat} (k : Nat) : ∀ {P : Ps}, (∀ x ∈ P, x.2.length = f) → cntP k P ≤ P.length * f
  | [], _ => by simp [cntP]
  | x :: P, h => by
    have h1 := cntP_le (f := f) k (P := P) fun y hy => h y (List.mem_cons_of_mem _ hy)
    have h2 := cntL_le k x.2
    rw [h x List.mem_cons_self] at h2
    simp only [cntP, List.length_cons]
    rw [Nat.add_mul]
    omega
theorem cntO_le (O : Ou) : ∀ n, cntO O n ≤ n
  | 0 => Nat.le_refl _
  | n + 1 => by have := cntO_le O n; unfold cntO; split <;> omega
theorem cntO_same {O O' : Ou} : ∀ {n : Nat}, (∀ k, k < n → (O' k = none ↔ O k = none)) → cntO O' n = cntO O n
  | 0, _ => rfl
  | n + 1, h => by
    have h1 := cntO_same (n := n) fun k hk => h k (by omega)
    have h2 := h n (by omega)
    unfold cntO
    rw [h1]
    by_cases e : O n = none
    · rw [if_pos e, if_pos (h2.2 e)]
    · rw [if_neg e, if_neg fun e' => e (h2.1 e')]
theorem cntO_upd (O : Ou) (k : Nat) (x : Option Of) : ∀ n, k < n → cntO (updO O k x) n + (if O k = none then 0 else 1) = cntO O n + (if x = none then 0 else 1)
  | 0, h => absurd h (Nat.not_lt_zero _)
  | n + 1, h => by
    unfold cntO
    by_cases e : k = n
    · subst e
      rw [updO_at, cntO_same (O := O) (O' := updO O k x) fun j hj => by rw [updO_ne (by omega)]]
      omega
    · have := cntO_upd O k x n (by omega)
      rw [updO_ne (fun e' => e e'.symm)]
      omega
theorem cntO_full {O : Ou} : ∀ {n : Nat}, cntO O n = n ↔ ∀ k, k < n → O k ≠ none
  | 0 => by simp [cntO]
  | n + 1 => by
    have ih := cntO_full (O := O) (n := n)
    have hle := cntO_le O n
    unfold cntO
    constructor
    · intro h k hk
      split at h
      · omega
      · rename_i hne
        rcases Nat.lt_or_ge k n with h1 | h1
        · exact ih.1 (by omega) k h1
        · have : k = n := by omega
          subst this; exact hne
    · intro h
      rw [if_neg (h n (by omega)), ih.2 fun k hk => h k (by omega)]
theorem opn_same {O O' : Ou} {n : Int} : ∀ {m : Nat}, (∀ k, k < m → isOf n (O' k) = isOf n (O k)) → opn O' n m = opn O n m
  | 0, _ => rfl
  | m + 1, h => by unfold opn; rw [opn_same (m := m) fun k hk => h k (by omega), h m (by omega)]
theorem opn_upd (O : Ou) (k : Nat) (x : Option Of) (n : Int) : ∀ m, k < m → opn (updO O k x) n m + isOf n (O k) = opn O n m + isOf n x
  | 0, h => absurd h (Nat.not_lt_zero _)
  | m + 1, h => by
    unfold opn
    by_cases e : k = m
    · subst e
      rw [updO_at, opn_same (O := O) (O' := updO O k x) fun j hj => by rw [updO_ne (by omega)]]
      omega
    · have := opn_upd O k x n m (by omega)
      rw [updO_ne (fun e' => e e'.symm)]
      omega
theorem opn_pos {O : Ou} {n : Int} {k : Nat} {o : Of} (h : O k = some o) (hn : o.ino = n) : ∀ {m : Nat}, k < m → 1 ≤ opn O n m
  | 0, hk => absurd hk (Nat.not_lt_zero _)
  | m + 1, hk => by
    unfold opn
    by_cases e : k = m
    · subst e
      rw [h]
      simp [isOf, hn]
    · have := opn_pos h hn (m := m) (by omega)
      omega
theorem opn_zero {O : Ou} {n : Int} : ∀ {m : Nat}, (∀ k o, O k = some o → o.ino ≠ n) → opn O n m = 0
  | 0, _ => rfl
  | m + 1, h => by
    unfold opn
    rw [opn_zero (m := m) h]
    cases e : O m with
    | none => rfl
    | some o => simp [isOf, h m o e]
def lowO (O : Ou) : Nat → Nat
  | 0 => 0
  | n + 1 => if lowO O n < n then lowO O n else if O n = none then n else n + 1
theorem lowO_spec (O : Ou) : ∀ n, lowO O n ≤ n ∧ (∀ j, j < lowO O n → O j ≠ none) ∧ (lowO O n < n → O (lowO O n) = none)
  | 0 => ⟨Nat.le_refl _, fun j h => absurd h (Nat.not_lt_zero _), fun h => absurd h (Nat.not_lt_zero _)⟩
  | n + 1 => by
    obtain ⟨h1, h2, h3⟩ := lowO_spec O n
    unfold lowO
    split
    · rename_i h
      exact ⟨by omega, h2, fun _ => h3 h⟩
    · rename_i h
      have e : lowO O n = n := by omega
      rw [e] at h2
      split
      · rename_i h4
        exact ⟨by omega, h2, fun _ => h4⟩
      · rename_i h4
        refine ⟨Nat.le_refl _, fun j hj => ?_, fun h => absurd h (Nat.lt_irrefl _)⟩
        rcases Nat.lt_or_ge j n with h5 | h5
        · exact h2 j h5
        · have : j = n := by omega
          subst this; exact h4
theorem lowO_full (O : Ou) (n : Nat) : lowO O n < n ↔ cntO O n < n := by
  obtain ⟨h1, h2, h3⟩ := lowO_spec O n
  have hle := cntO_le O n
  constructor
  · intro h
    rcases Nat.lt_or_ge (cntO O n) n with h4 | h4
    · exact h4
    · exact absurd (h3 h) (cntO_full.1 (by omega) _ h)
  · intro h
    rcases Nat.lt_or_ge (lowO O n) n with h4 | h4
    · exact h4
    · have := (cntO_full (O := O) (n := n)).2 fun k hk => h2 k (by omega)
      omega
end DC
namespace DC
open IS (I64)
structure DI (files opens : Nat) (S : Int → Option IN.Nd) (P : Ps) (O : Ou) (R : Ls) : Prop where
  asc : Asc P
  len : ∀ x ∈ P, x.2.length = files
  pid : ∀ x ∈ P, 1 ≤ x.1 ∧ I64 x.1
  refs : ∀ k o, O k = some o → 1 ≤ o.refs ∧ o.refs = (cntP k P + cntL k R : Nat)
  free : ∀ k, O k = none → cntP k P = 0 ∧ cntL k R = 0
  bound : ∀ k, O k ≠ none → k < opens
  ino : ∀ k o, O k = some o → ∃ x, S o.ino = some x ∧ x.kind = 1
  ops : ∀ n x, S n = some x → x.opens = (opn O n opens : Nat)
  off : ∀ k o, O k = some o → 0 ≤ o.off ∧ o.off ≤ 1048576 ∧ flg o.flags = true
section
variable {files opens : Nat} {S S' : Int → Option IN.Nd} {P : Ps} {O : Ou} {R : Ls}
theorem DI.lks (h : DI files opens S P O R) {p : Int} {L : Ls} (hl : lk P p = some L) : L.length = files ∧ 1 ≤ p ∧ I64 p :=
  ⟨h.len _ (lk_mem hl), h.pid _ (lk_mem hl)⟩
theorem DI.has (h : DI files opens S P O R) {p : Int} {L : Ls} (hl : lk P p = some L) {j k : Nat} (hj : L[j]? = some (some k)) : ∃ o, O k = some o := by
  cases e : O k with
  | none => have := (h.free k e).1; have := cntP_pos hl (cntL_pos hj); omega
  | some o => exact ⟨o, rfl⟩
theorem DI.skip (h : DI files opens S P O (none :: R)) : DI files opens S P O R := by
  have e : ∀ k, cntL k (none :: R) = cntL k R := fun k => by rw [cntL_cons]; simp
  exact ⟨h.asc, h.len, h.pid, fun k o ho => by have := h.refs k o ho; rw [e] at this; exact this, fun k hk => by have := h.free k hk; rw [e] at this; exact this, h.bound, h.ino, h.ops, h.off⟩
theorem DI.congrR (h : DI files opens S P O R) {R' : Ls} (e : ∀ k, cntL k R' = cntL k R) : DI files opens S P O R' :=
  ⟨h.asc, h.len, h.pid, fun k o ho => by have := h.refs k o ho; rw [e]; exact this, fun k hk => by have := h.free k hk; rw [e]; exact this, h.bound, h.ino, h.ops, h.off⟩
theorem DI.take (h : DI files opens S P O R) {p : Int} {L : Ls} (hl : lk P p = some L) {j k : Nat} (hj : L[j]? = some (some k)) : DI files opens S (setP P p (L.set j none)) O (some k :: R) := by
  have e : ∀ i, cntP i (setP P p (L.set j none)) + cntL i (some k :: R) = cntP i P + cntL i R := fun i => by
    have h1 := cntP_set (L' := L.set j none) h.asc hl i
    have h2 := cntL_set hj none i
    rw [cntL_cons]
    simp only [reduceCtorEq, if_false] at h2
    omega
  refine ⟨asc_set h.asc, fun x hx => ?_, fun x hx => ?_, fun i o ho => ?_, fun i hi => ?_, h.bound, h.ino, h.ops, h.off⟩
  · rcases set_mem hx with rfl | hx
    · simpa using (h.lks hl).1
    · exact h.len x hx
  · rcases set_mem hx with rfl | hx
    · exact (h.lks hl).2
    · exact h.pid x hx
  · have := h.refs i o ho
    have := e i
    omega
  · have := h.free i hi
    have := e i
    omega
theorem DI.lay {k : Nat} (h : DI files opens S P O (some k :: R)) {p : Int} {L : Ls} (hl : lk P p = some L) {j : Nat} (hj : L[j]? = some none) : DI files opens S (setP P p (L.set j (some k))) O R := by
  have e : ∀ i, cntP i (setP P p (L.set j (some k))) + cntL i R = cntP i P + cntL i (some k :: R) := fun i => by
    have h1 := cntP_set (L' := L.set j (some k)) h.asc hl i
    have h2 := cntL_set hj (some k) i
    rw [cntL_cons]
    simp only [reduceCtorEq, if_false] at h2
    omega
  refine ⟨asc_set h.asc, fun x hx => ?_, fun x hx => ?_, fun i o ho => ?_, fun i hi => ?_, h.bound, h.ino, h.ops, h.off⟩
  · rcases set_mem hx with rfl | hx
    · simpa using (h.lks hl).1
    · exact h.len x hx
  · rcases set_mem hx with rfl | hx
    · exact (h.lks hl).2
    · exact h.pid x hx
  · have := h.refs i o ho
    have := e i
    omega
  · have := h.free i hi
    have := e i
    omega
theorem DI.del (h : DI files opens S P O R) {p : Int} {L : Ls} (hl : lk P p = some L) : DI files opens S (delP P p) O (L ++ R) := by
  have e : ∀ i, cntP i (delP P p) + cntL i (L ++ R) = cntP i P + cntL i R := fun i => by
    have h1 := cntP_del h.asc hl i
    rw [cntL_app]
    omega
  refine ⟨asc_del h.asc, fun x hx => h.len x (del_mem hx), fun x hx => h.pid x (del_mem hx), fun i o ho => ?_, fun i hi => ?_, h.bound, h.ino, h.ops, h.off⟩
  · have := h.refs i o ho
    have := e i
    omega
  · have := h.free i hi
    have := e i
    omega
theorem DI.ins {L : Ls} (h : DI files opens S P O (L ++ R)) {p : Int} (hp : lk P p = none) (h1 : 1 ≤ p ∧ I64 p) (hlen : L.length = files) : DI files opens S (insP p L P) O R := by
  have e : ∀ i, cntP i (insP p L P) + cntL i R = cntP i P + cntL i (L ++ R) := fun i => by
    have h1 := cntP_ins P p L i
    rw [cntL_app]
    omega
  refine ⟨asc_ins h.asc hp, fun x hx => ?_, fun x hx => ?_, fun i o ho => ?_, fun i hi => ?_, h.bound, h.ino, h.ops, h.off⟩
  · rcases ins_mem hx with rfl | hx
    · exact hlen
    · exact h.len x hx
  · rcases ins_mem hx with rfl | hx
    · exact h1
    · exact h.pid x hx
  · have := h.refs i o ho
    have := e i
    omega
  · have := h.free i hi
    have := e i
    omega
theorem isOf_same {o o' : Of} (h : o'.ino = o.ino) (n : Int) : isOf n (some o') = isOf n (some o) := by simp only [isOf, h]
theorem DI.file (h : DI files opens S P O R) {k : Nat} {o o' : Of} (ho : O k = some o) (hi : o'.ino = o.ino) {R' : Ls} (hr : ∀ i, i ≠ k → cntL i R' = cntL i R) (hk : 1 ≤ o'.refs ∧ o'.refs = (cntP k P + cntL k R' : Nat)) (hf : 0 ≤ o'.off ∧ o'.off ≤ 1048576 ∧ flg o'.flags = true) :
    DI files opens S P (updO O k (some o')) R' := by
  refine ⟨h.asc, h.len, h.pid, fun i x hx => ?_, fun i hx => ?_, fun i hx => ?_, fun i x hx => ?_, fun n x hx => ?_, fun i x hx => ?_⟩
  · by_cases e : i = k
    · subst e; rw [updO_at] at hx; cases hx; exact hk
    · rw [updO_ne e] at hx; rw [hr i e]; exact h.refs i x hx
  · by_cases e : i = k
    · subst e; rw [updO_at] at hx; cases hx
    · rw [updO_ne e] at hx; rw [hr i e]; exact h.free i hx
  · by_cases e : i = k
    · subst e; exact h.bound i (by rw [ho]; simp)
    · rw [updO_ne e] at hx; exact h.bound i hx
  · by_cases e : i = k
    · subst e; rw [updO_at] at hx; cases hx; rw [hi]; exact h.ino i o ho
    · rw [updO_ne e] at hx; exact h.ino i x hx
  · have h1 := h.ops n x hx
    have h2 := opn_upd O k (some o') n opens (h.bound k (by rw [ho]; simp))
    rw [ho, isOf_same hi] at h2
    omega
  · by_cases e : i = k
    · subst e; rw [updO_at] at hx; cases hx; exact hf
    · rw [updO_ne e] at hx; exact h.off i x hx
theorem DI.seek (h : DI files opens S P O R) {k : Nat} {o : Of} (ho : O k = some o) {v : Int} (hv : 0 ≤ v ∧ v ≤ 1048576) : DI files opens S P (updO O k (some { o with off := v })) R :=
  h.file (o' := { o with off := v }) ho rfl (fun _ _ => rfl) (h.refs k o ho) ⟨hv.1, hv.2, (h.off k o ho).2.2⟩
theorem DI.more (h : DI files opens S P O R) {k : Nat} {o : Of} (ho : O k = some o) : DI files opens S P (updO O k (some { o with refs := o.refs + 1 })) (some k :: R) := by
  refine h.file (o' := { o with refs := o.refs + 1 }) ho rfl (fun i hi => ?_) ?_ (h.off k o ho)
  · rw [cntL_cons, if_neg (by simpa using fun e => hi e.symm)]; rfl
  · have := h.refs k o ho
    rw [cntL_cons, if_pos rfl]
    show 1 ≤ o.refs + 1 ∧ o.refs + 1 = _
    omega
theorem DI.less {k : Nat} (h : DI files opens S P O (some k :: R)) {o : Of} (ho : O k = some o) (h1 : 1 < o.refs) : DI files opens S P (updO O k (some { o with refs := o.refs - 1 })) R := by
  refine h.file (o' := { o with refs := o.refs - 1 }) ho rfl (fun i hi => ?_) ?_ (h.off k o ho)
  · rw [cntL_cons, if_neg (by simpa using fun e => hi e.symm)]; rfl
  · have := h.refs k o ho
    rw [cntL_cons, if_pos rfl] at this
    show 1 ≤ o.refs - 1 ∧ o.refs - 1 = _
    omega
theorem DI.store (h : DI files opens S P O R) (h1 : ∀ n x, S n = some x → 0 < x.opens → ∃ x', S' n = some x' ∧ x'.kind = x.kind) (h2 : ∀ n x', S' n = some x' → (∃ x, S n = some x ∧ x'.opens = x.opens) ∨ (x'.opens = 0 ∧ S n = none)) : DI files opens S' P O R := by
  refine ⟨h.asc, h.len, h.pid, h.refs, h.free, h.bound, fun k o ho => ?_, fun n x hx => ?_, h.off⟩
  · obtain ⟨x, hx, hk⟩ := h.ino k o ho
    have h3 := h.ops o.ino x hx
    have h4 := opn_pos ho rfl (h.bound k (by rw [ho]; simp))
    obtain ⟨x', h5, h6⟩ := h1 o.ino x hx (by omega)
    exact ⟨x', h5, by omega⟩
  · rcases h2 n x hx with ⟨y, hy, e⟩ | ⟨e, hy⟩
    · rw [e]; exact h.ops n y hy
    · rw [e, opn_zero fun k o ho e2 => ?_]; rfl
      obtain ⟨x, hx, -⟩ := h.ino k o ho
      rw [e2, hy] at hx; cases hx
theorem DI.opened (h : DI files opens S P O R) {k : Nat} (hk : O k = none) (hb : k < opens) {n fl : Int} {x : IN.Nd} (hx : S n = some x) (hf : x.kind = 1) (hfl : flg fl = true) :
    DI files opens (IN.opS S n) P (updO O k (some ⟨n, 0, fl, 1⟩)) (some k :: R) := by
  have hS : IN.opS S n = IN.upd S n (some { x with opens := x.opens + 1 }) := by unfold IN.opS; rw [hx]
  rw [hS]
  refine ⟨h.asc, h.len, h.pid, fun i o ho => ?_, fun i hi => ?_, fun i hi => ?_, fun i o ho => ?_, fun m y hy => ?_, fun i o ho => ?_⟩
  · by_cases e : i = k
    · subst e
      rw [updO_at] at ho
      cases ho
      have := h.free i hk
      rw [cntL_cons, if_pos rfl]
      show (1 : Int) ≤ 1 ∧ (1 : Int) = _
      omega
    · rw [updO_ne e] at ho
      rw [cntL_cons, if_neg (by simpa using fun e' => e e'.symm)]
      exact h.refs i o ho
  · by_cases e : i = k
    · subst e; rw [updO_at] at hi; cases hi
    · rw [updO_ne e] at hi
      rw [cntL_cons, if_neg (by simpa using fun e' => e e'.symm)]
      exact h.free i hi
  · by_cases e : i = k
    · subst e; exact hb
    · rw [updO_ne e] at hi; exact h.bound i hi
  · have h1 : ∀ m, (∃ y, S m = some y ∧ y.kind = 1) → ∃ y, IN.upd S n (some { x with opens := x.opens + 1 }) m = some y ∧ y.kind = 1 := fun m ⟨y, h1, h2⟩ => by
      by_cases e : m = n
      · subst e; exact ⟨_, IN.upd_at _ _ _, hf⟩
      · exact ⟨y, by rw [IN.upd_ne e]; exact h1, h2⟩
    by_cases e : i = k
    · subst e
      rw [updO_at] at ho
      cases ho
      exact h1 n ⟨x, hx, hf⟩
    · rw [updO_ne e] at ho
      exact h1 _ (h.ino i o ho)
  · have h2 := opn_upd O k (some ⟨n, 0, fl, 1⟩) m opens hb
    rw [hk] at h2
    by_cases e : m = n
    · subst e
      rw [IN.upd_at] at hy
      cases hy
      have h3 := h.ops m x hx
      have h4 : isOf m (some (⟨m, 0, fl, 1⟩ : Of)) = 1 := if_pos rfl
      rw [h4] at h2
      have h5 : isOf m none = 0 := rfl
      show x.opens + 1 = _
      omega
    · rw [IN.upd_ne e] at hy
      have h3 := h.ops m y hy
      have h4 : isOf m (some (⟨n, 0, fl, 1⟩ : Of)) = 0 := if_neg fun e' => e (Eq.symm e')
      have h5 : isOf m none = 0 := rfl
      omega
  · by_cases e : i = k
    · subst e
      rw [updO_at] at ho
      cases ho
      exact ⟨Int.le_refl _, (show (0 : Int) ≤ 1048576 by decide), hfl⟩
    · rw [updO_ne e] at ho; exact h.off i o ho
theorem DI.closed {k : Nat} (h : DI files opens S P O (some k :: R)) {o : Of} (ho : O k = some o) (h1 : o.refs = 1) : DI files opens (IN.clS S o.ino) P (updO O k none) R := by
  have hb := h.bound k (by rw [ho]; simp)
  obtain ⟨x, hx, hkd⟩ := h.ino k o ho
  have hxo := h.ops o.ino x hx
  have hpos := opn_pos ho rfl hb
  have h2 := fun m => opn_upd O k none m opens hb
  have hn : isOf o.ino (some o) = 1 := if_pos rfl
  have hz : ∀ m, isOf m none = 0 := fun _ => rfl
  have hr := h.refs k o ho
  rw [cntL_cons, if_pos rfl] at hr
  have hS : IN.clS S o.ino = IN.upd S o.ino (if x.links = 0 ∧ x.opens - 1 = 0 then none else some { x with opens := x.opens - 1 }) := by
    unfold IN.clS
    rw [hx]
    simp only
    rw [if_pos (by omega)]
    unfold IN.gone
    rw [IN.upd_at]
    simp only
    split
    · rw [IN.upd_upd]
    · rfl
  rw [hS]
  refine ⟨h.asc, h.len, h.pid, fun i y hy => ?_, fun i hi => ?_, fun i hi => ?_, fun i y hy => ?_, fun m y hy => ?_, fun i y hy => ?_⟩
  · by_cases e : i = k
    · subst e; rw [updO_at] at hy; cases hy
    · rw [updO_ne e] at hy
      have := h.refs i y hy
      rw [cntL_cons, if_neg (by simpa using fun e' => e e'.symm)] at this
      exact this
  · by_cases e : i = k
    · subst e; omega
    · rw [updO_ne e] at hi
      have := h.free i hi
      rw [cntL_cons, if_neg (by simpa using fun e' => e e'.symm)] at this
      exact this
  · by_cases e : i = k
    · subst e; rw [updO_at] at hi; exact absurd rfl hi
    · rw [updO_ne e] at hi; exact h.bound i hi
  · by_cases e : i = k
    · subst e; rw [updO_at] at hy; cases hy
    · rw [updO_ne e] at hy
      by_cases e2 : y.ino = o.ino
      · have h3 := h2 o.ino
        have h4 := opn_pos (O := updO O k none) (n := o.ino) (by rw [updO_ne e]; exact hy) e2 (h.bound i (by rw [hy]; simp))
        rw [ho, hn, hz] at h3
        rw [e2, IN.upd_at, if_neg (by omega)]
        exact ⟨_, rfl, hkd⟩
      · rw [IN.upd_ne e2]; exact h.ino i y hy
  · have h3 := h2 m
    rw [ho, hz] at h3
    by_cases e : m = o.ino
    · subst e
      rw [IN.upd_at] at hy
      split at hy
      · cases hy
      · cases hy
        show x.opens - 1 = _
        omega
    · rw [IN.upd_ne e] at hy
      have h4 := h.ops m y hy
      have h5 : isOf m (some o) = 0 := if_neg fun e' => e e'.symm
      omega
  · by_cases e : i = k
    · subst e; rw [updO_at] at hy; cases hy
    · rw [updO_ne e] at hy; exact h.off i y hy
end
end DC
end Go.Proofs.YtfhidjkhmjdioaaGreat

namespace Go.Proofs.YtfhidjkhmjdioaaGreat
open Go.ChangeShapes Go.WideShapes Go.ChangeAt Go.RowKit Go.Maps
set_option linter.unusedVariables false
set_option linter.unusedSimpArgs false
namespace NT
open IN (Keeps)
section
variable {base : Nat} {w w' : World} {tg sg mb I L B q c : Nat} {A : Int → Option (Nat × Nat)} {D : Ds} {S : Int → Option IN.Nd}
open Classical in
noncomputable def lowN (S : Int → Option IN.Nd) : Nat := if h : ∃ n, IN.Low S n then Classical.choose h else 0
theorem low_uni {S : Int → Option IN.Nd} {n m : Nat} (h : IN.Low S n) (h' : IN.Low S m) : n = m := by
  rcases Nat.lt_trichotomy n m with h1 | h1 | h1
  · exact absurd h.2.1 (h'.2.2 n h.1 h1)
  · exact h1
  · exact absurd h'.2.1 (h.2.2 m h'.1 h1)
theorem lowN_eq {S : Int → Option IN.Nd} {n : Nat} (h : IN.Low S n) : lowN S = n := by
  have he : ∃ n, IN.Low S n := ⟨n, h⟩
  unfold lowN
  rw [dif_pos he]
  exact low_uni (Classical.choose_spec he) h
noncomputable def mk (I : Nat) (S : Int → Option IN.Nd) (D : Ds) (s : ByteArray) (kind : Int) : (Int × Int) × (Int → Option IN.Nd) × Ds :=
  if kind = 1 ∨ kind = 2 then
    if PM.perr s ≠ 0 then ((0, PM.perr s), S, D) else match vacant D kind s with
    | .error e => ((0, e), S, D)
    | .ok p => if IN.mkR I S kind ≠ 0 then ((0, IN.mkR I S kind), S, D) else (((lowN S : Nat), 0), IN.upd S (lowN S : Nat) (some (IN.newNd kind)), mkD D p (last (PM.pN s)) (lowN S : Nat) kind)
  else ((0, 2), S, D)
theorem mkR_low {I : Nat} {S : Int → Option IN.Nd} {kind : Int} (hk : kind = 1 ∨ kind = 2) (h : IN.mkR I S kind = 0) : ∃ n, n ≤ I ∧ IN.Low S n := by
  unfold IN.mkR at h
  rw [if_pos hk] at h
  split at h
  · rename_i h2
    exact IN.low_of h2
  · cases h
def mvS (S : Int → Option IN.Nd) (D : Ds) (pf pt : Int) (kf kt : ByteArray) : (Int → Option IN.Nd) × Ds :=
  let n := (at_ D pf kf).getD 0
  match at_ D pt kt with
  | none => (S, movD D pf kf pt kt n)
  | some m => if m = n then (S, D) else (IN.ulS S m, if D m = none then movD D pf kf pt kt n else upd (movD D pf kf pt kt n) m none)
noncomputable def ren (S : Int → Option IN.Nd) (D : Ds) (s t : ByteArray) : Int × (Int → Option IN.Nd) × Ds :=
  if PM.perr s ≠ 0 then (PM.perr s, S, D) else if PM.perr t ≠ 0 then (PM.perr t, S, D) else if PM.pN t = [] then (2, S, D) else match src D s with
  | .error e => (e, S, D)
  | .ok pf => match dst D s t pf with
    | .error e => (e, S, D)
    | .ok pt => (0, mvS S D pf pt (last (PM.pN s)) (last (PM.pN t)))
end
end NT
end Go.Proofs.YtfhidjkhmjdioaaGreat

namespace Go.Proofs.YtfhidjkhmjdioaaGreat
set_option linter.unusedVariables false
set_option linter.unusedSimpArgs false
namespace NT
def Alike (S S' : Int → Option IN.Nd) : Prop := ∀ n, S' n = S n ∨ ∃ x x', S n = some x ∧ S' n = some x' ∧ x'.kind = x.kind ∧ x'.links = x.links ∧ x'.opens = x.opens
theorem Alike.refl (S : Int → Option IN.Nd) : Alike S S := fun _ => .inl rfl
theorem alike_wr (I B : Nat) (S : Int → Option IN.Nd) (n f : Int) (s : ByteArray) : Alike S (IN.wrS I B S n f s) := fun m => by
  unfold IN.wrS
  cases e : S n with
  | none => exact .inl rfl
  | some d =>
    simp only
    split
    · by_cases h : m = n
      · subst h
        rw [IN.upd_at]
        exact .inr ⟨d, _, e, rfl, rfl, rfl, rfl⟩
      · rw [IN.upd_ne h]; exact .inl rfl
    · exact .inl rfl
theorem alike_t (S : Int → Option IN.Nd) (n s : Int) : Alike S (IN.tS S n s) := fun m => by
  unfold IN.tS
  cases e : S n with
  | none => exact .inl rfl
  | some d =>
    simp only
    split
    · by_cases h : m = n
      · subst h
        rw [IN.upd_at]
        exact .inr ⟨d, _, e, rfl, rfl, rfl, rfl⟩
      · rw [IN.upd_ne h]; exact .inl rfl
    · exact .inl rfl
section
variable {I c : Nat} {e : Int → Int} {S S' : Int → Option IN.Nd} {D : Ds}
theorem Alike.back (h : Alike S S') {n : Int} {x' : IN.Nd} (hx : S' n = some x') : ∃ x, S n = some x ∧ x'.kind = x.kind ∧ x'.links = x.links ∧ x'.opens = x.opens := by
  rcases h n with e | ⟨x, y, h1, h2, h3⟩
  · exact ⟨x', e ▸ hx, rfl, rfl, rfl⟩
  · rw [h2] at hx; cases hx; exact ⟨x, h1, h3⟩
theorem Alike.fore (h : Alike S S') {n : Int} {x : IN.Nd} (hx : S n = some x) : ∃ x', S' n = some x' ∧ x'.kind = x.kind ∧ x'.links = x.links ∧ x'.opens = x.opens := by
  rcases h n with e | ⟨y, x', h1, h2, h3⟩
  · exact ⟨x, by rw [e]; exact hx, rfl, rfl, rfl⟩
  · rw [h1] at hx; cases hx; exact ⟨x', h2, h3⟩
theorem Alike.gone (h : Alike S S') {n : Int} : S' n = none ↔ S n = none := by
  constructor
  · intro h1
    cases h2 : S n with
    | none => rfl
    | some x => obtain ⟨x', h3, -⟩ := h.fore h2; rw [h1] at h3; cases h3
  · intro h1
    cases h2 : S' n with
    | none => rfl
    | some x => obtain ⟨x', h3, -⟩ := h.back h2; rw [h1] at h3; cases h3
theorem TI.alike (h : TI I c e S D) (ha : Alike S S') : TI I c e S' D :=
  ⟨h.root, fun n hn => h.num n fun e => hn (ha.gone.2 e), fun n => by
    rw [h.kind n]
    constructor
    · rintro ⟨x, h1, h2⟩
      obtain ⟨x', h3, h4, -⟩ := ha.fore h1
      exact ⟨x', h3, by omega⟩
    · rintro ⟨x, h1, h2⟩
      obtain ⟨x', h3, h4, -⟩ := ha.back h1
      exact ⟨x', h3, by omega⟩, fun n x hx hk => by
    obtain ⟨y, h1, h2, h3, -⟩ := ha.back hx
    have := h.one n y h1 (by omega)
    omega, fun j x hx => by
    obtain ⟨y, h1, h2, h3, h4⟩ := ha.back hx
    have := h.links j y h1
    exact ⟨⟨by omega, fun e => by have := this.1.2 (by omega); omega⟩, by omega⟩, fun j hj => h.gone j (ha.gone.1 hj), h.ent, h.up, h.asc, h.reach⟩
theorem TI.open_ (h : TI I c e S D) {n : Int} {x : IN.Nd} (hx : S n = some x) (hk : x.kind = 1) {v : Int} (hv : 0 ≤ v) : TI I c e (IN.upd S n (some { x with opens := v })) D := by
  have hb : ∀ m y, IN.upd S n (some { x with opens := v }) m = some y → ∃ z, S m = some z ∧ y.kind = z.kind ∧ y.links = z.links ∧ (y.opens = z.opens ∨ (m = n ∧ y.opens = v)) := fun m y hy => by
    by_cases e : m = n
    · subst e; rw [IN.upd_at] at hy; cases hy; exact ⟨x, hx, rfl, rfl, .inr ⟨rfl, rfl⟩⟩
    · rw [IN.upd_ne e] at hy; exact ⟨y, hy, rfl, rfl, .inl rfl⟩
  have hn : ∀ m, IN.upd S n (some { x with opens := v }) m = none ↔ S m = none := fun m => by
    by_cases e : m = n
    · subst e; rw [IN.upd_at, hx]; simp
    · rw [IN.upd_ne e]
  refine ⟨h.root, fun m hm => h.num m fun e => hm ((hn m).2 e), fun m => ?_, fun m y hy hk2 => ?_, fun j y hy => ?_, fun j hj => h.gone j ((hn j).1 hj), h.ent, h.up, h.asc, h.reach⟩
  · rw [h.kind m]
    constructor
    · rintro ⟨y, h1, h2⟩
      by_cases e : m = n
      · subst e; rw [hx] at h1; cases h1; omega
      · exact ⟨y, by rw [IN.upd_ne e]; exact h1, h2⟩
    · rintro ⟨y, h1, h2⟩
      obtain ⟨z, h3, h4, -⟩ := hb m y h1
      exact ⟨z, h3, by omega⟩
  · obtain ⟨z, h3, h4, h5, -⟩ := hb m y hy
    have := h.one m z h3 (by omega)
    omega
  · obtain ⟨z, h3, h4, h5, h6⟩ := hb j y hy
    have := h.links j z h3
    refine ⟨⟨?_, fun e2 => ?_⟩, by omega⟩
    · rcases h6 with h6 | ⟨-, h6⟩ <;> omega
    · rcases h6 with h6 | ⟨h7, h6⟩
      · have := this.1.2 (by omega); omega
      · subst h7; rw [hx] at h3; cases h3; omega
theorem TI.lose (h : TI I c e0 S D) {n : Int} {x : IN.Nd} (hx : S n = some x) (hk : x.kind = 1) (hl : x.links = 0) : TI I c e0 (IN.upd S n none) D := by
  have hb : ∀ m y, IN.upd S n none m = some y → m ≠ n ∧ S m = some y := fun m y hy => by
    by_cases e : m = n
    · subst e; rw [IN.upd_at] at hy; cases hy
    · rw [IN.upd_ne e] at hy; exact ⟨e, hy⟩
  refine ⟨h.root, fun m hm => ?_, fun m => ?_, fun m y hy hk2 => h.one m y (hb m y hy).2 hk2, fun j y hy => h.links j y (hb j y hy).2, fun j hj => ?_, h.ent, h.up, h.asc, h.reach⟩
  · obtain ⟨y, hy⟩ := Option.ne_none_iff_exists'.1 hm
    exact h.num m (by rw [(hb m y hy).2]; simp)
  · rw [h.kind m]
    constructor
    · rintro ⟨y, h1, h2⟩
      by_cases e : m = n
      · subst e; rw [hx] at h1; cases h1; omega
      · exact ⟨y, by rw [IN.upd_ne e]; exact h1, h2⟩
    · rintro ⟨y, h1, h2⟩
      exact ⟨y, (hb m y h1).2, h2⟩
  · by_cases e : j = n
    · subst e
      have h1 := (h.links j x hx).2
      have h2 : e0 j = 0 := rfl
      refine ⟨?_, rfl⟩
      split at h1 <;> omega
    · rw [IN.upd_ne e] at hj; exact h.gone j hj
theorem TI.opS (h : TI I c e0 S D) {n : Int} {x : IN.Nd} (hx : S n = some x) (hk : x.kind = 1) : TI I c e0 (IN.opS S n) D := by
  unfold IN.opS
  rw [hx]
  have := (h.links n x hx).1.1
  exact h.open_ hx hk (by omega)
theorem TI.clS (h : TI I c e0 S D) {n : Int} {x : IN.Nd} (hx : S n = some x) (hk : x.kind = 1) : TI I c e0 (IN.clS S n) D := by
  unfold IN.clS
  rw [hx]
  simp only
  split
  · rename_i hp
    unfold IN.gone
    rw [IN.upd_at]
    simp only
    split
    · rename_i hg
      exact (h.open_ hx hk (v := x.opens - 1) (by omega)).lose (IN.upd_at _ _ _) hk hg.1
    · exact h.open_ hx hk (by omega)
  · exact h
end
end NT
namespace DC
section
variable {files opens : Nat} {S S' : Int → Option IN.Nd} {P : Ps} {O : Ou} {R : Ls}
theorem DI.alike (h : DI files opens S P O R) (ha : NT.Alike S S') : DI files opens S' P O R :=
  h.store (fun n x hx _ => by obtain ⟨x', h1, h2, -⟩ := ha.fore hx; exact ⟨x', h1, h2⟩) (fun n x' hx => by obtain ⟨x, h1, -, -, h2⟩ := ha.back hx; exact .inl ⟨x, h1, h2⟩)
theorem DI.make (h : DI files opens S P O R) {n kd : Int} (hn : S n = none) : DI files opens (IN.upd S n (some (IN.newNd kd))) P O R :=
  h.store (fun m x hx _ => by
    have e : m ≠ n := fun e => by rw [e, hn] at hx; cases hx
    exact ⟨x, by rw [IN.upd_ne e]; exact hx, rfl⟩) (fun m x' hx => by
    by_cases e : m = n
    · subst e; rw [IN.upd_at] at hx; cases hx; exact .inr ⟨rfl, hn⟩
    · rw [IN.upd_ne e] at hx; exact .inl ⟨x', hx, rfl⟩)
end
end DC
end Go.Proofs.YtfhidjkhmjdioaaGreat

namespace Go.Proofs.YtfhidjkhmjdioaaGreat
open Go.ChangeShapes Go.WideShapes Go.ChangeAt Go.RowKit Go.Maps
set_option linter.unusedVariables false
set_option linter.unusedSimpArgs false
namespace DC
open IS (I64 upd)
open IN (Keeps lt_of_some)
def pad (f : Nat) (β : Nat → Nat) (L : Ls) : Ls := L.map (Option.map β) ++ List.replicate (64 - f) none
theorem pad_len {f : Nat} {β : Nat → Nat} {L : Ls} (h : L.length = f) (hf : f ≤ 64) : (pad f β L).length = 64 := by simp [pad, h]; omega
theorem pad_at {f : Nat} {β : Nat → Nat} {L : Ls} (h : L.length = f) (j : Nat) (hj : j < f) : (pad f β L)[j]? = (L[j]?).map (Option.map β) := by
  unfold pad
  rw [List.getElem?_append_left (by simp [h]; exact hj), List.getElem?_map]
theorem pad_hi {f : Nat} {β : Nat → Nat} {L : Ls} (h : L.length = f) (j : Nat) (hj : f ≤ j) (h64 : j < 64) : (pad f β L)[j]? = some none := by
  unfold pad
  rw [List.getElem?_append_right (by simp [h]; exact hj), List.length_map, h, List.getElem?_replicate, if_pos (by omega)]
theorem pad_set {f : Nat} {β : Nat → Nat} {L : Ls} (h : L.length = f) (j : Nat) (hj : j < f) (x : Option Nat) : pad f β (L.set j x) = (pad f β L).set j (x.map β) := by
  unfold pad
  rw [List.map_set, List.set_append_left _ _ (by simp [h]; exact hj)]
theorem pad_rep (f : Nat) (β : Nat → Nat) (hf : f ≤ 64) : pad f β (List.replicate f none) = L0 := by
  unfold pad L0
  rw [List.map_replicate, Option.map_none, List.replicate_append_replicate]
  congr 1
  omega
theorem pad_same {f : Nat} {β β' : Nat → Nat} {L : Ls} (h : ∀ k, some k ∈ L → β' k = β k) : pad f β' L = pad f β L := by
  unfold pad
  congr 1
  refine List.map_congr_left fun x hx => ?_
  cases x with
  | none => rfl
  | some k => simp [h k hx]
theorem getL_pad {f : Nat} {β : Nat → Nat} {L : Ls} (h : L.length = f) (hf : f ≤ 64) (fd : Int) : getL (pad f β L) fd = (getL L fd).map β := by
  unfold getL
  by_cases h0 : 0 ≤ fd
  · rw [if_pos h0, if_pos h0]
    by_cases h1 : fd.toNat < f
    · rw [pad_at h _ h1, List.getElem?_eq_getElem (by omega)]
      rfl
    · rw [List.getElem?_eq_none (by omega : L.length ≤ fd.toNat)]
      by_cases h2 : fd.toNat < 64
      · rw [pad_hi h _ (by omega) h2]; rfl
      · rw [List.getElem?_eq_none (by rw [pad_len h hf]; omega)]; rfl
  · rw [if_neg h0, if_neg h0]; rfl
theorem fx_pad {f : Nat} {β : Nat → Nat} {L : Ls} (h : L.length = f) : fx ((pad f β L).take f) = fx L := by
  unfold pad fx
  rw [List.take_append_of_le_length (by simp [h]), List.take_of_length_le (by simp [h]), List.findIdx_map]
  congr 1
  funext x
  cases x <;> rfl
theorem fx_none {L : Ls} (h : fx L < L.length) : L[fx L]? = some none := by
  rw [List.getElem?_eq_getElem h, fx_at h]
theorem FB.blk {w : World} {g : Nat} {o : Of} (h : FB w g o) : Blk w g 135 [.int .i64 o.ino, .int .i64 o.off, .int .i64 o.flags, .int .i64 o.refs] := h
theorem TB.blk {w : World} {g sg ng b : Nat} {f l : Int} (h : TB w g sg ng b f l) : Blk w g 101 [.pointer (some ⟨sg, 0, none⟩), .pointer (some ⟨ng, 0, none⟩), .map (some b), .int .i64 f, .int .i64 l] := h
structure FP (base : Nat) (w : World) (f : Nat) (β : Nat → Nat) (M : Int → Option Nat) (P : Ps) (O : Ou) : Prop where
  dom : ∀ p, M p = none ↔ lk P p = none
  inj : ∀ p q g, M p = some g → M q = some g → p = q
  pr : ∀ p g L, M p = some g → lk P p = some L → PR w g (pad f β L)
  fb : ∀ k o, O k = some o → FB w (β k) o
  binj : ∀ j k, O j ≠ none → O k ≠ none → β j = β k → j = k
  ge : (∀ p g, M p = some g → base ≤ g) ∧ ∀ k, O k ≠ none → base ≤ β k
section
variable {base : Nat} {w w' : World} {f : Nat} {β : Nat → Nat} {M : Int → Option Nat} {P : Ps} {O : Ou}
theorem FP.hasP (h : FP base w f β M P O) {p : Int} {L : Ls} (hl : lk P p = some L) : ∃ g, M p = some g ∧ PR w g (pad f β L) ∧ base ≤ g := by
  cases e : M p with
  | none => rw [(h.dom p).1 e] at hl; cases hl
  | some g => exact ⟨g, rfl, h.pr p g L e hl, h.ge.1 p g e⟩
theorem FP.plt (h : FP base w f β M P O) {p : Int} {g : Nat} (hM : M p = some g) : ∃ L, lk P p = some L ∧ PR w g (pad f β L) ∧ g < w.heap.size := by
  cases e : lk P p with
  | none => rw [(h.dom p).2 e] at hM; cases hM
  | some L => exact ⟨L, rfl, h.pr p g L hM e, (h.pr p g L hM e).2.lt⟩
theorem FP.moved (h : FP base w f β M P O) (h1 : ∀ p g, M p = some g → w'.heap[g]? = w.heap[g]?) (h2 : ∀ k, O k ≠ none → w'.heap[β k]? = w.heap[β k]?) : FP base w' f β M P O :=
  ⟨h.dom, h.inj, fun p g L hM hl => ⟨(h.pr p g L hM hl).1, (h1 p g hM).trans (h.pr p g L hM hl).2⟩, fun k o ho => (h2 k (by rw [ho]; simp)).trans (h.fb k o ho), h.binj, h.ge⟩
theorem FP.keep (h : FP base w f β M P O) (hb : Below w.heap.size w w') : FP base w' f β M P O :=
  h.moved (fun p g hM => by obtain ⟨L, _, _, hlt⟩ := h.plt hM; exact hb.block _ hlt) fun k hk => by
    obtain ⟨o, ho⟩ := Option.ne_none_iff_exists'.1 hk
    exact hb.block _ (h.fb k o ho).lt
theorem FP.drew (h : FP base w f β M P O) (n : Nat) : FP base (w.drewN n) f β M P O := h.moved (fun _ _ _ => rfl) fun _ _ => rfl
theorem FP.drew1 (h : FP base w f β M P O) : FP base w.drew f β M P O := h.moved (fun _ _ _ => rfl) fun _ _ => rfl
theorem FP.alloc (h : FP base w f β M P O) (o : Obj) : FP base (w.alloc o) f β M P O := h.keep ((Below.refl _ _).alloc (Nat.le_refl _) o)
theorem FP.keeps (h : FP base w f β M P O) {B : Nat} {T : Nat → Obj → Prop} (hK : Keeps B T w w') (h1 : ∀ p g L, M p = some g → PR w g L → ¬ T g (.cells (L.map pv).toArray 111 (0, 0))) (h2 : ∀ k o, FB w k o → ¬ T k (.cells [.int .i64 o.ino, .int .i64 o.off, .int .i64 o.flags, .int .i64 o.refs].toArray 135 (0, 0))) : FP base w' f β M P O :=
  h.moved (fun p g hM => by
    obtain ⟨L, _, hp, _⟩ := h.plt hM
    exact (hK.block _ _ hp.2 (h1 p g _ hM hp)).trans (Eq.symm hp.2)) fun k hk => by
    obtain ⟨o, ho⟩ := Option.ne_none_iff_exists'.1 hk
    have := h.fb k o ho
    exact (hK.block _ _ this (h2 _ _ this)).trans (Eq.symm this)
theorem FP.setFile (h : FP base w f β M P O) {k : Nat} {o o' : Of} (ho : O k = some o) (j : Nat) (u : Value) (he : ([.int .i64 o.ino, .int .i64 o.off, .int .i64 o.flags, .int .i64 o.refs] : List Value).set j u = [.int .i64 o'.ino, .int .i64 o'.off, .int .i64 o'.flags, .int .i64 o'.refs]) : FP base (w.setCell ⟨β k, j, none⟩ u) f β M P (updO O k (some o')) := by
  have hb := h.fb k o ho
  have hnone : ∀ i, updO O k (some o') i ≠ none → O i ≠ none := fun i hi => by
    by_cases e : i = k
    · subst e; rw [ho]; simp
    · rw [updO_ne e] at hi; exact hi
  refine ⟨h.dom, h.inj, fun p g L hM hl => ?_, fun i x hx => ?_, fun i j' hi hj e => h.binj i j' (hnone i hi) (hnone j' hj) e, h.ge.1, fun i hi => h.ge.2 i (hnone i hi)⟩
  · have hp := h.pr p g L hM hl
    exact ⟨hp.1, hp.2.far (p := ⟨β k, j, none⟩) (IN.blk_ne hp.2 hb.blk (by decide)) _⟩
  · by_cases e : i = k
    · subst e
      rw [updO_at] at hx
      cases hx
      have := Blk.set hb j u
      rw [he] at this
      exact this
    · rw [updO_ne e] at hx
      exact Blk.far (h.fb i x hx) (p := ⟨β k, j, none⟩) (fun e2 => e (h.binj i k (by rw [hx]; simp) (by rw [ho]; simp) e2)) u
theorem FP.setSlot (h : FP base w f β M P O) {p : Int} {g : Nat} {L : Ls} (hM : M p = some g) (hl : lk P p = some L) (hf : L.length = f) {j : Nat} (hj : j < f) (x : Option Nat) (u : Value) (hu : u = pv (x.map β)) : FP base (w.setCell ⟨g, j, none⟩ u) f β M (setP P p (L.set j x)) O := by
  subst hu
  have hg := h.pr p g L hM hl
  refine ⟨fun q => ?_, h.inj, fun q g' L' hq hl' => ?_, fun i o ho => ?_, h.binj, h.ge⟩
  · rw [h.dom q, lk_set]
    split
    · rename_i e; rw [e.1, hl]; simp
    · rfl
  · rw [lk_set] at hl'
    by_cases e : q = p
    · subst e
      rw [if_pos ⟨rfl, by rw [hl]; simp⟩] at hl'
      cases hl'
      rw [hM] at hq
      cases hq
      refine ⟨?_, ?_⟩
      · rw [pad_set hf j hj, List.length_set]; exact hg.1
      · rw [pad_set hf j hj, List.map_set]; exact hg.2.set j _
    · rw [if_neg fun e' => e e'.1] at hl'
      have := h.pr q g' L' hq hl'
      exact ⟨this.1, this.2.far (p := ⟨g, j, none⟩) (fun e2 => e (h.inj q p g (by have e3 : g' = g := e2; rw [← e3]; exact hq) hM)) _⟩
  · have := h.fb i o ho
    exact Blk.far this (p := ⟨g, j, none⟩) (IN.blk_ne this.blk hg.2 (by decide)) _
theorem FP.drop (h : FP base w f β M P O) (k : Nat) : FP base w f β M P (updO O k none) := by
  have hnone : ∀ i, updO O k none i ≠ none → O i ≠ none := fun i hi => by
    by_cases e : i = k
    · subst e; rw [updO_at] at hi; exact absurd rfl hi
    · rw [updO_ne e] at hi; exact hi
  refine ⟨h.dom, h.inj, h.pr, fun i o ho => ?_, fun i j hi hj e => h.binj i j (hnone i hi) (hnone j hj) e, h.ge.1, fun i hi => h.ge.2 i (hnone i hi)⟩
  by_cases e : i = k
  · subst e; rw [updO_at] at ho; cases ho
  · rw [updO_ne e] at ho; exact h.fb i o ho
def updB (β : Nat → Nat) (k x : Nat) : Nat → Nat := fun j => if j = k then x else β j
theorem updB_at (k x : Nat) : updB β k x k = x := if_pos rfl
theorem updB_ne {j k x : Nat} (h : j ≠ k) : updB β k x j = β j := if_neg h
theorem FP.newFile (h : FP base w f β M P O) {k x : Nat} {o : Of} (hk : O k = none) (hnew : FB w x o) (hx : base ≤ x) (hfr : ∀ i, O i ≠ none → β i ≠ x) (hno : ∀ p L, lk P p = some L → some k ∉ L) : FP base w f (updB β k x) M P (updO O k (some o)) := by
  refine ⟨h.dom, h.inj, fun p g L hM hl => ?_, fun i y hy => ?_, fun i j hi hj e => ?_, h.ge.1, fun i hi => ?_⟩
  · have := h.pr p g L hM hl
    rw [pad_same (β := β) fun i hi => updB_ne fun e => hno p L hl (by rw [← e]; exact hi)]
    exact this
  · by_cases e : i = k
    · subst e; rw [updO_at] at hy; cases hy; rw [updB_at]; exact hnew
    · rw [updO_ne e] at hy; rw [updB_ne e]; exact h.fb i y hy
  · by_cases e1 : i = k
    · by_cases e2 : j = k
      · rw [e1, e2]
      · subst e1
        rw [updB_at, updB_ne e2] at e
        rw [updO_ne e2] at hj
        exact absurd e.symm (hfr j hj)
    · by_cases e2 : j = k
      · subst e2
        rw [updB_at, updB_ne e1] at e
        rw [updO_ne e1] at hi
        exact absurd e (hfr i hi)
      · rw [updB_ne e1, updB_ne e2] at e
        rw [updO_ne e1] at hi
        rw [updO_ne e2] at hj
        exact h.binj i j hi hj e
  · by_cases e : i = k
    · subst e; rw [updB_at]; exact hx
    · rw [updO_ne e] at hi; rw [updB_ne e]; exact h.ge.2 i hi
theorem FP.newProc (h : FP base w f β M P O) {p : Int} {g : Nat} {L : Ls} (hl : lk P p = none) (hnew : PR w g (pad f β L)) (hg : base ≤ g) (hfr : ∀ q g', M q = some g' → g' ≠ g) : FP base w f β (upd M p (some g)) (insP p L P) O := by
  refine ⟨fun q => ?_, fun q r g' hq hr => ?_, fun q g' L' hq hl' => ?_, h.fb, h.binj, fun q g' hq => ?_, h.ge.2⟩
  · rw [lk_ins hl]
    unfold upd
    by_cases e : q = p
    · simp [e]
    · simp [e, h.dom q]
  · unfold upd at hq hr
    by_cases e1 : q = p
    · by_cases e2 : r = p
      · rw [e1, e2]
      · rw [if_pos e1] at hq
        rw [if_neg e2] at hr
        cases hq
        exact absurd rfl (hfr r g hr)
    · by_cases e2 : r = p
      · rw [if_pos e2] at hr
        rw [if_neg e1] at hq
        cases hr
        exact absurd rfl (hfr q g hq)
      · rw [if_neg e1] at hq
        rw [if_neg e2] at hr
        exact h.inj q r g' hq hr
  · rw [lk_ins hl] at hl'
    unfold upd at hq
    by_cases e : q = p
    · rw [if_pos e] at hq hl'
      cases hq
      cases hl'
      exact hnew
    · rw [if_neg e] at hq hl'
      exact h.pr q g' L' hq hl'
  · unfold upd at hq
    by_cases e : q = p
    · rw [if_pos e] at hq; cases hq; exact hg
    · rw [if_neg e] at hq; exact h.ge.1 q g' hq
end
end DC
namespace DC
open IS (I64 upd)
open IN (Keeps lt_of_some)
structure Cn where
  base : Nat
  g : Nat
  tg : Nat
  sg : Nat
  mb : Nat
  b : Nat
  I : Nat
  L : Nat
  B : Nat
  files : Nat
  opens : Nat
abbrev Am := Int → Option (Nat × Nat)
abbrev Sm := Int → Option IN.Nd
structure DP (K : Cn) (q : Nat) (A : Am) (S : Sm) (D : NT.Ds) (M : Int → Option Nat) (β : Nat → Nat) (P : Ps) (O : Ou) (w : World) : Prop where
  tw : NT.TW K.base K.tg K.sg K.mb K.I K.L K.B q q A S D w
  far : K.b ≠ K.mb ∧ ∀ n x m, A n = some (x, m) → m ≠ K.b
  tb : TB w K.g K.sg K.tg K.b (K.files : Int) ((K.opens : Int) - (cntO O K.opens : Int))
  fp : FP K.base w K.files β M P O
  ge : K.base ≤ K.g ∧ K.base ≤ K.b
structure DM (K : Cn) (q : Nat) (A : Am) (S : Sm) (D : NT.Ds) (M : Int → Option Nat) (β : Nat → Nat) (P : Ps) (O : Ou) (R : Ls) (w : World) : Prop where
  dp : DP K q A S D M β P O w
  di : DI K.files K.opens S P O R
  cap : 1 ≤ K.files ∧ K.files ≤ 64 ∧ 1 ≤ K.opens ∧ K.opens ≤ 1024 ∧ 1 ≤ K.L ∧ P.length ≤ q ∧ q < 60000 ∧ R.length ≤ 64
def DW (K : Cn) (q : Nat) (A : Am) (S : Sm) (D : NT.Ds) (P : Ps) (O : Ou) (w : World) : Prop := ∃ M β, MB w K.b q M ∧ DM K q A S D M β P O [] w
def UT (K : Cn) (A : Am) (k : Nat) (o : Obj) : Prop := NT.FT A K.mb k o ∨ (∃ c s, o = .cells c 135 s) ∨ (∃ c s, o = .cells c 111 s) ∨ (∃ c s, o = .cells c 101 s) ∨ (k = K.b ∧ ∃ es c, o = .map es c)
def WT (K : Cn) (k : Nat) (o : Obj) : Prop := IN.PT K.mb k o ∨ (∃ c s, o = .cells c 135 s) ∨ (∃ c s, o = .cells c 101 s)
section
variable {K : Cn} {q : Nat} {A : Am} {S : Sm} {D : NT.Ds} {M : Int → Option Nat} {β : Nat → Nat} {P : Ps} {O : Ou} {R : Ls} {w w' : World} {n : Nat}
theorem MB.obj (h : MB w n q M) : ∃ es c, w.heap[n]? = some (.map es c) := by
  obtain ⟨D, ⟨es, clock, hb, _⟩, _⟩ := h.ex
  exact ⟨es, clock, hb⟩
theorem TW_drew {base tg sg mb I L B q c : Nat} (h : NT.TW base tg sg mb I L B q c A S D w) (n : Nat) : NT.TW base tg sg mb I L B q c A S D (w.drewN n) := ⟨h.tm.drew n, by obtain ⟨M, hM⟩ := h.ps; exact ⟨M, hM.pm.drew n, hM.fn, hM.lim⟩, h.ti⟩
theorem TW_q {base tg sg mb I L B q c q' : Nat} (h : NT.TW base tg sg mb I L B q c A S D w) (hq : q ≤ q') : NT.TW base tg sg mb I L B q' c A S D w := ⟨h.tm, by obtain ⟨M, hM⟩ := h.ps; exact ⟨M, hM.more hq⟩, h.ti⟩
theorem DP.low (h : DP K q A S D M β P O w) : K.base ≤ w.heap.size := h.tw.tm.low
theorem DP.keep (h : DP K q A S D M β P O w) (hb : Below w.heap.size w w') : DP K q A S D M β P O w' := ⟨h.tw.keep hb, h.far, h.tb.keep hb, h.fp.keep hb, h.ge⟩
theorem DP.drew (h : DP K q A S D M β P O w) (n : Nat) : DP K q A S D M β P O (w.drewN n) := ⟨TW_drew h.tw n, h.far, h.tb, h.fp.drew n, h.ge⟩
theorem TW_drew1 {base tg sg mb I L B q c : Nat} (h : NT.TW base tg sg mb I L B q c A S D w) : NT.TW base tg sg mb I L B q c A S D w.drew := ⟨h.tm.moved rfl fun _ _ _ _ => ⟨rfl, rfl⟩, by obtain ⟨M, hM⟩ := h.ps; exact ⟨M, hM.pm.drew1, hM.fn, hM.lim⟩, h.ti⟩
theorem DP.drew1 (h : DP K q A S D M β P O w) : DP K q A S D M β P O w.drew := ⟨TW_drew1 h.tw, h.far, h.tb, h.fp.drew1, h.ge⟩
theorem DP.more (h : DP K q A S D M β P O w) {q' : Nat} (hq : q ≤ q') : DP K q' A S D M β P O w := ⟨TW_q (h.tw.more hq) hq, h.far, h.tb, h.fp, h.ge⟩
theorem DM.low (h : DM K q A S D M β P O R w) : K.base ≤ w.heap.size := h.dp.low
theorem DM.keep (h : DM K q A S D M β P O R w) (hb : Below w.heap.size w w') : DM K q A S D M β P O R w' := ⟨h.dp.keep hb, h.di, h.cap⟩
theorem DM.drew (h : DM K q A S D M β P O R w) (n : Nat) : DM K q A S D M β P O R (w.drewN n) := ⟨h.dp.drew n, h.di, h.cap⟩
theorem DM.drew1 (h : DM K q A S D M β P O R w) : DM K q A S D M β P O R w.drew := ⟨h.dp.drew1, h.di, h.cap⟩
theorem DM.alloc (h : DM K q A S D M β P O R w) (o : Obj) : DM K q A S D M β P O R (w.alloc o) := h.keep ((Below.refl _ _).alloc (Nat.le_refl _) o)
theorem DM.more (h : DM K q A S D M β P O R w) {q' : Nat} (hq : q ≤ q') (hq' : q' < 60000) : DM K q' A S D M β P O R w := ⟨h.dp.more hq, h.di, by have := h.cap; omega⟩
theorem DW.keep (h : DW K q A S D P O w) (hb : Below w.heap.size w w') : DW K q A S D P O w' := by
  obtain ⟨M, β, h1, h2⟩ := h
  exact ⟨M, β, h1.keep hb, h2.keep hb⟩
theorem DW.more (h : DW K q A S D P O w) {q' : Nat} (hq : q ≤ q') (hq' : q' < 60000) : DW K q' A S D P O w := by
  obtain ⟨M, β, h1, h2⟩ := h
  exact ⟨M, β, h1.le hq, h2.more hq hq'⟩
/-! What each kind of work leaves alone. -/
theorem TB_keeps {sg ng b : Nat} {f l : Int} {g : Nat} (h : TB w g sg ng b f l) {B : Nat} {T : Nat → Obj → Prop} (hK : Keeps B T w w') (h1 : ∀ k c s, ¬ T k (.cells c 101 s)) : TB w' g sg ng b f l := hK.block _ _ h (h1 _ _ _)
theorem MB_keeps {b : Nat} (h : MB w b n M) {B : Nat} {T : Nat → Obj → Prop} (hK : Keeps B T w w') (h1 : ∀ es c, ¬ T b (.map es c)) : MB w' b n M := by
  obtain ⟨es, c, ho⟩ := h.obj
  exact h.heap ((hK.block _ _ ho (h1 _ _)).trans ho.symm)
theorem DP.store (h : DP K q A S D M β P O w) (hK : Keeps K.base (IN.PT K.mb) w w') {S' : Sm} {q' : Nat} (hq : q ≤ q') (hp : ∃ M', IN.PS K.base w' K.sg K.mb M' K.I K.L K.B q' S') (ht : NT.TI K.I q NT.e0 S' D) : DP K q' A S' D M β P O w' :=
  ⟨⟨h.tw.tm.store hK, hp, ht.more hq⟩, h.far, TB_keeps h.tb hK (by simp [IN.PT]), h.fp.keeps hK (by simp [IN.PT]) (by simp [IN.PT]), h.ge⟩
theorem DP.mbStore (h : DP K q A S D M β P O w) {M' : Int → Option Nat} (hm : MB w K.b n M') (hK : Keeps K.base (WT K) w w') : MB w' K.b n M' :=
  MB_keeps hm hK fun es c => by simp [WT, IN.PT, h.far.1]
theorem DP.tree (h : DP K q A S D M β P O w) (hK : Keeps K.base (NT.FT A K.mb) w w') {A' : Am} {S' : Sm} {D' : NT.Ds} {q' : Nat} (hs : NT.Sub A A' w) (ht : NT.TW K.base K.tg K.sg K.mb K.I K.L K.B q' q' A' S' D' w') (hb : K.b < w.heap.size) : DP K q' A' S' D' M β P O w' := by
  refine ⟨ht, ⟨h.far.1, fun n x m hA => ?_⟩, TB_keeps h.tb hK (by simp [NT.FT, IN.PT, NT.OneD, NT.One]), h.fp.keeps hK (by simp [NT.FT, IN.PT, NT.OneD, NT.One]) (by simp [NT.FT, IN.PT, NT.OneD, NT.One]), h.ge⟩
  rcases hs n x m hA with e | e
  · exact h.far.2 n x m e
  · omega
theorem DP.mbTree (h : DP K q A S D M β P O w) {M' : Int → Option Nat} (hm : MB w K.b n M') (hK : Keeps K.base (NT.FT A K.mb) w w') : MB w' K.b n M' :=
  MB_keeps hm hK fun es c => by
    rintro (h1 | ⟨m, x, y, h1, h2 | h2⟩)
    · simp [IN.PT, h.far.1] at h1
    · simp [NT.OneD] at h2
    · exact h.far.2 m x y h1 h2.1.symm
theorem WT_store (h : Keeps K.base (IN.PT K.mb) w w') : Keeps K.base (WT K) w w' := NT.keeps_wide h fun k o _ hT => .inl hT
theorem UT_w (A : Am) (h : Keeps K.base (WT K) w w') : Keeps K.base (UT K A) w w' := NT.keeps_wide h fun k o _ hT => by
  rcases hT with h1 | h1 | h1
  · exact .inl (.inl h1)
  · exact .inr (.inl h1)
  · exact .inr (.inr (.inr (.inl h1)))
theorem UT_tree (h : Keeps K.base (NT.FT A K.mb) w w') : Keeps K.base (UT K A) w w' := NT.keeps_wide h fun k o _ hT => .inl hT
theorem UT_file {k j : Nat} {u : Value} {o : Of} (h : FB w k o) (hb : K.base ≤ k) : Keeps K.base (UT K A) w (w.setCell ⟨k, j, none⟩ u) := (Keeps.refl _ _ _).setCell (p := ⟨k, j, none⟩) h (.inr (.inl ⟨_, _, rfl⟩)) hb u
theorem UT_slot {k j : Nat} {u : Value} {L : Ls} (h : PR w k L) (hb : K.base ≤ k) : Keeps K.base (UT K A) w (w.setCell ⟨k, j, none⟩ u) := (Keeps.refl _ _ _).setCell (p := ⟨k, j, none⟩) h.2 (.inr (.inr (.inl ⟨_, _, rfl⟩))) hb u
theorem WT_table {k j sg ng b : Nat} {f l : Int} {u : Value} (h : TB w k sg ng b f l) (hb : K.base ≤ k) : Keeps K.base (WT K) w (w.setCell ⟨k, j, none⟩ u) := (Keeps.refl _ _ _).setCell (p := ⟨k, j, none⟩) h (.inr (.inr ⟨_, _, rfl⟩)) hb u
theorem TW_set {base tg sg mb I L B q c : Nat} (h : NT.TW base tg sg mb I L B q c A S D w) {k j : Nat} {u : Value} {cs : Array Value} {ty : TypeId} {s : Nat × Nat} (ho : w.heap[k]? = some (.cells cs ty s)) (hty : ty = 135 ∨ ty = 111 ∨ ty = 101) : NT.TW base tg sg mb I L B q c A S D (w.setCell ⟨k, j, none⟩ u) := by
  have hK : Keeps 0 (fun i o => i = k ∧ ∃ c s, o = .cells c ty s) w (w.setCell ⟨k, j, none⟩ u) := (Keeps.refl _ _ _).setCell (p := ⟨k, j, none⟩) ho ⟨rfl, _, _, rfl⟩ (Nat.zero_le _) u
  refine ⟨h.tm.keeps hK ?_ ?_ ?_, ?_, h.ti⟩
  · rintro _ _ _ ⟨-, _, _, e⟩
    simp only [Obj.cells.injEq] at e
    rcases hty with h | h | h <;> rw [h] at e <;> simp at e
  · rintro _ _ _ ⟨-, _, _, e⟩
    simp only [Obj.cells.injEq] at e
    rcases hty with h | h | h <;> rw [h] at e <;> simp at e
  · rintro _ _ _ _ _ _ ⟨-, _, _, e⟩
    cases e
  · obtain ⟨M, hM⟩ := h.ps
    refine ⟨M, hM.keeps hK ?_ ?_ ?_ ?_⟩
    · rintro _ _ _ ⟨-, _, _, e⟩
      simp only [Obj.cells.injEq] at e
      rcases hty with h | h | h <;> rw [h] at e <;> simp at e
    · rintro _ _ _ ⟨-, _, _, e⟩
      simp only [Obj.cells.injEq] at e
      rcases hty with h | h | h <;> rw [h] at e <;> simp at e
    · rintro _ _ ⟨-, _, _, e⟩
      cases e
    · rintro _ _ ⟨-, _, _, e⟩
      simp only [Obj.cells.injEq] at e
      rcases hty with h | h | h <;> rw [h] at e <;> simp at e
end
end DC
end Go.Proofs.YtfhidjkhmjdioaaGreat
