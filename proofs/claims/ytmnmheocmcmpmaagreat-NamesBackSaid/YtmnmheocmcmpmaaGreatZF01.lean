/- The law NamesBack of layer 12 (package haywardlaw12): for every input it returns true, and its arguments read as before. No further condition. -/
import Derived.Test.YtmnmheocmcmpmaaGreatZX01
import Derived.Test.YtmnmheocmcmpmaaGreatZB10

namespace Go.Proofs.YtmnmheocmcmpmaaGreat
set_option linter.unusedVariables false
set_option linter.unusedSimpArgs false
open RN
namespace NT
theorem last_snoc {l : List ByteArray} (h : l ≠ []) : l.dropLast ++ [last l] = l := by
  have h1 := List.dropLast_concat_getLast h
  have h2 : last l = l.getLast h := by
    unfold last
    have : l.length - 1 < l.length := by have := List.length_pos_iff.2 h; omega
    rw [List.getLast_eq_getElem]
    simp [List.getD, this]
  rw [h2]; exact h1
theorem place_ok {D : Ds} {l : List ByteArray} {r p : Int} (h : place D l r = .ok p) : l ≠ [] ∧ goes D 1 l.dropLast = .ok p ∧ D p ≠ none := by
  unfold place at h
  by_cases e : l = []
  · rw [if_pos e] at h; cases h
  · rw [if_neg e] at h
    cases hg : goes D 1 l.dropLast with
    | error e2 => rw [hg] at h; cases h
    | ok n =>
      rw [hg] at h
      simp only at h
      by_cases hD : D n = none
      · rw [if_pos hD] at h; cases h
      · rw [if_neg hD] at h; cases h; exact ⟨e, rfl, hD⟩
theorem place_of {D : Ds} {l : List ByteArray} {p : Int} (h1 : l ≠ []) (h2 : goes D 1 l.dropLast = .ok p) (h3 : D p ≠ none) (r : Int) : place D l r = .ok p := by
  unfold place
  rw [if_neg h1, h2]
  simp only
  rw [if_neg h3]
theorem name_ne {k : ByteArray} (h : PM.name k = true) : k ≠ PM.dot ∧ k ≠ PM.dots := by
  unfold PM.name at h
  simp only [Bool.and_eq_true, decide_eq_true_eq] at h
  exact ⟨h.1.2, h.2⟩
theorem step_nm {D : Ds} {p : Int} {d : Dr} {k : ByteArray} (hD : D p = some d) (h : k ≠ PM.dot ∧ k ≠ PM.dots) : step D p k = (match look k d.l with | none => .error 11 | some m => .ok m) := by
  unfold step
  rw [hD]
  simp only
  rw [if_neg h.1, if_neg h.2]
  rfl
theorem goes_last {D : Ds} {l : List ByteArray} {p : Int} (h1 : l ≠ []) (h2 : goes D 1 l.dropLast = .ok p) : goes D 1 l = step D p (last l) := by
  conv => lhs; rw [← last_snoc h1]
  rw [goes_snoc, h2]
theorem find_of {D : Ds} {l : List ByteArray} {dir : Bool} {n : Int} (h1 : goes D 1 l = .ok n) (h2 : ¬ (dir = true ∧ D n = none)) : find D l dir = .ok n := by
  unfold find
  rw [h1]
  simp only
  rw [if_neg h2]
theorem del_ins (k : ByteArray) (n : Int) : ∀ {l : List (ByteArray × Int)}, look k l = none → del k (ins k n l) = l
  | [], _ => by simp [ins, del]
  | x :: l, h => by
    have hx : x.1 ≠ k := fun e => by simp [look, e] at h
    have hl : look k l = none := by simpa [look, hx] using h
    unfold ins
    by_cases e : blt x.1 k = true
    · rw [if_pos e]
      have ih := del_ins k n hl
      unfold del at ih ⊢
      rw [List.filter_cons_of_pos (by simp [hx]), ih]
    · rw [if_neg e]
      have ih := del_none h
      unfold del at ih ⊢
      rw [List.filter_cons_of_neg (by simp), ih]
theorem cut_put_id {D : Ds} {p n : Int} {d : Dr} {z : ByteArray} (hD : D p = some d) (hl : look z d.l = none) : cutD (putD D p z n) p z = D := by
  funext x
  by_cases e : x = p
  · subst e
    rw [cutD_at (putD_at hD z n), hD]
    simp only [put]
    rw [del_none hl, del_ins z n hl]
  · rw [cutD_ne e, putD_ne e]
section
variable {I L c : Nat} {S : Int → Option IN.Nd} {D : Ds}
end
end NT
namespace NT
theorem ins_head {k : ByteArray} {n : Int} : ∀ {l : List (ByteArray × Int)}, (∀ x ∈ l, blt k x.1 = true) → ins k n l = (k, n) :: l
  | [], _ => rfl
  | x :: l, h => by
    unfold ins
    rw [if_neg (by rw [blt_asy (h x List.mem_cons_self)]; simp)]
theorem ins_del {k : ByteArray} {n : Int} : ∀ {l : List (ByteArray × Int)}, Asc l → look k l = some n → ins k n (del k l) = l
  | [], _, h => by cases h
  | x :: l, ha, h => by
    unfold look at h
    by_cases e : x.1 = k
    · rw [if_pos e] at h
      cases h
      subst e
      have h1 := del_none (asc_look ha)
      have h2 : del x.1 (x :: l) = l := by
        unfold del at h1 ⊢
        rw [List.filter_cons_of_neg (by simp), h1]
      rw [h2, ins_head (List.pairwise_cons.1 ha).1]
    · rw [if_neg e] at h
      have ih := ins_del (asc_tail ha) h
      have h2 : del k (x :: l) = x :: del k l := by unfold del; rw [List.filter_cons_of_pos (by simp [e])]
      rw [h2]
      have hb : blt x.1 k = true := (List.pairwise_cons.1 ha).1 (k, n) (look_mem h)
      unfold ins
      rw [if_pos hb, ih]
theorem put_cut_id {D : Ds} {p n : Int} {d : Dr} {z : ByteArray} (hD : D p = some d) (ha : Asc d.l) (hl : look z d.l = some n) : putD (cutD D p z) p z n = D := by
  funext x
  by_cases e : x = p
  · subst e
    rw [putD_at (cutD_at hD z), hD]
    simp only [put]
    rw [del_none (l := del z d.l) (by rw [look_del, if_pos rfl]), ins_del ha hl]
  · rw [putD_ne e, cutD_ne e]
theorem upD_upD (D : Ds) (n p q : Int) : upD (upD D n p) n q = upD D n q := by
  funext x
  unfold upD
  by_cases e : x = n
  · rw [if_pos e, if_pos e, if_pos rfl, Option.map_map]; rfl
  · rw [if_neg e, if_neg e, if_neg e]
theorem upD_id {D : Ds} {n p : Int} (h : ∀ d, D n = some d → d.up = p) : upD D n p = D := by
  funext x
  unfold upD
  by_cases e : x = n
  · subst e
    rw [if_pos rfl]
    cases hD : D x with
    | none => rfl
    | some d => rw [← h d hD]; rfl
  · rw [if_neg e]
theorem at_upD (D : Ds) (n p x : Int) (k : ByteArray) : at_ (upD D n p) x k = at_ D x k := by
  unfold at_ upD
  by_cases e : x = n
  · rw [if_pos e, e]
    cases D n with
    | none => rfl
    | some d => rfl
  · rw [if_neg e]
theorem at_put {D : Ds} {p n x : Int} {z k : ByteArray} (hp : D p ≠ none) : at_ (putD D p z n) x k = if x = p ∧ k = z then some n else at_ D x k := by
  obtain ⟨d, hD⟩ := Option.ne_none_iff_exists'.1 hp
  by_cases e : x = p
  · subst e
    unfold at_
    rw [putD_at hD, hD]
    simp only
    rw [look_put]
    by_cases e2 : k = z
    · rw [if_pos e2, if_pos (by simp [e2])]
    · rw [if_neg e2, if_neg (fun h => e2 h.2)]
  · rw [if_neg (fun h => e h.1)]
    unfold at_
    rw [putD_ne e]
theorem step_at {D : Ds} {x : Int} {k : ByteArray} (hD : D x ≠ none) (hk : k ≠ PM.dot ∧ k ≠ PM.dots) : step D x k = (match at_ D x k with | none => .error 11 | some m => .ok m) := by
  obtain ⟨d, hd⟩ := Option.ne_none_iff_exists'.1 hD
  rw [step_nm hd hk]
  unfold at_
  rw [hd]
  all_goals rfl
theorem anc_self {D : Ds} : ∀ {q : Nat} {n : Int}, Reach D q n → n ∈ anc D q n
  | 0, n, _ => by unfold anc; simp
  | q + 1, n, h => by unfold anc; simp
theorem anc_avoid {D D' : Ds} {m : Int} (h : ∀ n d, n ≠ m → D n = some d → ∃ d', D' n = some d' ∧ d'.up = d.up) : ∀ {q : Nat} {n : Int}, Reach D q n → m ∉ anc D q n → anc D' q n = anc D q n
  | 0, n, _, _ => rfl
  | q + 1, n, hr, ha => by
    obtain ⟨h1, x, hx, hr2⟩ := hr
    unfold anc at ha ⊢
    rw [hx] at ha ⊢
    simp only [List.mem_cons, not_or] at ha
    obtain ⟨d', h2, h3⟩ := h n x (fun e => ha.1 e.symm) hx
    rw [h2]
    simp only
    rw [h3, anc_avoid h hr2 ha.2]
section
variable {I c : Nat} {S : Int → Option IN.Nd} {D : Ds}
theorem goes_anc (h : TI I c e0 S D) : ∀ {l : List ByteArray} {a m : Int} {qa : Nat}, (∀ k ∈ l, k ≠ PM.dot ∧ k ≠ PM.dots) → goes D a l = .ok m → D a ≠ none → D m ≠ none → Reach D qa a → ∃ q', Reach D q' m ∧ ∀ y ∈ anc D qa a, y ∈ anc D q' m
  | [], a, m, qa, _, hg, _, _, hr => by cases hg; exact ⟨qa, hr, fun y hy => hy⟩
  | x :: l, a, m, qa, hk, hg, ha, hm, hr => by
    unfold goes at hg
    rw [step_at ha (hk x List.mem_cons_self)] at hg
    cases hat : at_ D a x with
    | none => rw [hat] at hg; cases hg
    | some b =>
      rw [hat] at hg
      simp only at hg
      by_cases hb : D b = none
      · cases l with
        | nil => cases hg; exact absurd hb hm
        | cons y l => unfold goes step at hg; rw [hb] at hg; cases hg
      · obtain ⟨db, hdb⟩ := Option.ne_none_iff_exists'.1 hb
        obtain ⟨da, hda, hlk⟩ := at_look hat
        have hup := (h.ent a da x b hda hlk).2 db hdb
        have hrb : Reach D (qa + 1) b := ⟨h.not1 (by simp) hat, db, hdb, by rw [hup]; exact hr⟩
        obtain ⟨q', h1, h2⟩ := goes_anc h (fun k hk2 => hk k (List.mem_cons_of_mem _ hk2)) hg hb hm hrb
        refine ⟨q', h1, fun y hy => h2 y ?_⟩
        unfold anc
        rw [hdb]
        simp only [List.mem_cons]
        rw [hup]
        exact .inr hy
theorem goes_moved (h : TI I c e0 S D) {D' : Ds} {n m : Int} (hm : D m ≠ none) (hav : ∀ q', Reach D q' m → n ∉ anc D q' m) (hdom : ∀ x, D x ≠ none → D' x ≠ none) (hat' : ∀ x k b, at_ D x k = some b → b ≠ n → at_ D' x k = some b) : ∀ {l : List ByteArray} {a : Int} {qa : Nat}, (∀ k ∈ l, k ≠ PM.dot ∧ k ≠ PM.dots) → goes D a l = .ok m → D a ≠ none → Reach D qa a → goes D' a l = .ok m
  | [], a, qa, _, hg, _, _ => hg
  | x :: l, a, qa, hk, hg, ha, hr => by
    have hg0 := hg
    unfold goes at hg ⊢
    rw [step_at ha (hk x List.mem_cons_self)] at hg
    rw [step_at (hdom a ha) (hk x List.mem_cons_self)]
    cases hat : at_ D a x with
    | none => rw [hat] at hg; cases hg
    | some b =>
      rw [hat] at hg
      simp only at hg
      by_cases hb : D b = none
      · cases l with
        | nil => cases hg; exact absurd hb hm
        | cons y l => unfold goes step at hg; rw [hb] at hg; cases hg
      · obtain ⟨db, hdb⟩ := Option.ne_none_iff_exists'.1 hb
        obtain ⟨da, hda, hlk⟩ := at_look hat
        have hup := (h.ent a da x b hda hlk).2 db hdb
        have hrb : Reach D (qa + 1) b := ⟨h.not1 (by simp) hat, db, hdb, by rw [hup]; exact hr⟩
        have hk2 : ∀ k ∈ l, k ≠ PM.dot ∧ k ≠ PM.dots := fun k hk2 => hk k (List.mem_cons_of_mem _ hk2)
        have hbn : b ≠ n := fun e => by
          obtain ⟨q', h1, h2⟩ := goes_anc h hk2 hg hb hm hrb
          have := h2 b (anc_self hrb)
          rw [e] at this
          exact hav q' h1 this
        rw [hat' a x b hat hbn]
        simp only
        exact goes_moved h hm hav hdom hat' hk2 hg hb hrb
theorem movV_file {hh : Nat} {pf pt n : Int} {kf kt : ByteArray} {df dt : Bool} (h : movV D hh pf kf df pt kt dt = 0) (hn : at_ D pf kf = some n) : ¬ (D n = none ∧ (df = true ∨ dt = true)) := fun h2 => by
  unfold movV at h
  split at h
  · cases h
  · rw [hn] at h
    simp only at h
    rw [if_pos h2] at h
    cases h
theorem back_ok (h : TI I c e0 S D) {s t : ByteArray} (hds : ∀ k ∈ PM.pN s, k ≠ PM.dot ∧ k ≠ PM.dots) (hdt : ∀ k ∈ PM.pN t, k ≠ PM.dot ∧ k ≠ PM.dots) (h0 : (ren S D s t).1 = 0) (hno : er (findR D t) ≠ 0) :
    ∃ n D', (ren S D s t).2 = (S, D') ∧ findR D s = .ok n ∧ findR D' t = .ok n ∧ er (findR D' s) ≠ 0 ∧ ren S D' t s = (0, S, D) := by
  unfold ren at h0 ⊢
  by_cases p0 : PM.perr s = 0
  rotate_left
  · rw [if_pos p0] at h0; exact absurd h0 p0
  rw [if_neg (fun e => e p0)] at h0 ⊢
  by_cases p1 : PM.perr t = 0
  rotate_left
  · rw [if_pos p1] at h0; exact absurd h0 p1
  rw [if_neg (fun e => e p1)] at h0 ⊢
  by_cases n2 : PM.pN t = []
  · rw [if_pos n2] at h0; cases h0
  rw [if_neg n2] at h0 ⊢
  cases hsr : src D s with
  | error e => rw [hsr] at h0; exact absurd h0 (place_er2 (by decide) (show place D (PM.pN s) 2 = .error e from hsr))
  | ok pf =>
    rw [hsr] at h0
    simp only at h0 ⊢
    cases hds' : dst D s t pf with
    | error e => rw [hds'] at h0; exact absurd h0 (dst_er hds')
    | ok pt =>
      simp only
      obtain ⟨hpt, hmv⟩ := dst_place hds'
      obtain ⟨n1, hgf, hpfn⟩ := place_ok (show place D (PM.pN s) 2 = .ok pf from hsr)
      obtain ⟨-, hgt, hptn⟩ := place_ok hpt
      obtain ⟨hk1, hk2, n, hn, hrest⟩ := movV_ok hmv
      have hsl := movV_file hmv hn
      have hz1 := name_ne hk1
      have hz2 := name_ne hk2
      obtain ⟨dpf, hdf⟩ := Option.ne_none_iff_exists'.1 hpfn
      obtain ⟨dpt, hdt'⟩ := Option.ne_none_iff_exists'.1 hptn
      have hgt1 : goes D 1 (PM.pN t) = step D pt (last (PM.pN t)) := goes_last n2 hgt
      have hgs1 : goes D 1 (PM.pN s) = step D pf (last (PM.pN s)) := goes_last n1 hgf
      have hm : at_ D pt (last (PM.pN t)) = none := by
        cases hm : at_ D pt (last (PM.pN t)) with
        | none => rfl
        | some m =>
          exfalso
          rw [hm] at hrest
          simp only at hrest
          rw [step_at hptn hz2, hm] at hgt1
          simp only at hgt1
          apply hno
          rw [findR_ok p1]
          have : find D (PM.pN t) (PM.pD t) = .ok m := find_of hgt1 fun e => by
            rcases hrest with e2 | ⟨e2, -⟩
            · rw [e2] at e; exact hsl ⟨e.2, .inr e.1⟩
            · exact hsl ⟨e2.1 e.2, .inr e.1⟩
          rw [this]; rfl
      rw [hm] at hrest
      simp only at hrest
      have hr := h.far pt dpt hdt'
      have hrf := h.far pf dpf hdf
      have hnpf := h.noself hn
      have hin : ∀ x y q', Reach D q' x → y ∈ anc D q' x → D y ≠ none := fun x y q' hr hy => by
        obtain ⟨q2, -, h4⟩ := anc_reach hr y hy
        cases q2 with
        | zero =>
          obtain ⟨d1, h5, -⟩ := h.root
          rw [show y = 1 from h4, h5]; simp
        | succ q2 =>
          obtain ⟨-, x2, hx2, -⟩ := h4
          rw [hx2]; simp
      have hapt : ∀ q', Reach D q' pt → n ∉ anc D q' pt := fun q' hq' hy => by
        have e := reach_one hq' hr
        subst e
        exact hrest (hin pt n _ hq' hy) hy
      have hapf : ∀ q', Reach D q' pf → n ∉ anc D q' pf := fun q' hq' hy => by
        obtain ⟨dn, hdn⟩ := Option.ne_none_iff_exists'.1 (hin pf n q' hq' hy)
        obtain ⟨d5, h5, h6⟩ := at_look hn
        have hup := (h.ent pf d5 _ n h5 h6).2 dn hdn
        obtain ⟨q2, h7, h8⟩ := anc_reach hq' n hy
        have := reach_one h8 (show Reach D (q' + 1) n from ⟨h.not1 (by simp) hn, dn, hdn, by rw [hup]; exact hq'⟩)
        omega
      have hnpt : n ≠ pt := fun e => by
        have := hapt _ hr
        rw [e] at this
        exact this (anc_self hr)
      have hdiff : ¬ (pt = pf ∧ last (PM.pN t) = last (PM.pN s)) := fun e => by rw [e.1, e.2, hn] at hm; cases hm
      obtain ⟨D', hD'⟩ : ∃ D', movD D pf (last (PM.pN s)) pt (last (PM.pN t)) n = D' := ⟨_, rfl⟩
      have hX : D' = putD (upD (cutD D pf (last (PM.pN s))) n pt) pt (last (PM.pN t)) n := by rw [← hD', movD_eq hnpt]
      have hdom : ∀ x, D' x = none ↔ D x = none := fun x => by rw [hX, putD_none, upDn, cutD_none]
      have hptE : upD (cutD D pf (last (PM.pN s))) n pt pt ≠ none := fun e => hptn (by rw [upDn, cutD_none] at e; exact e)
      have hat' : ∀ x k, at_ D' x k = if x = pt ∧ k = last (PM.pN t) then some n else if x = pf ∧ k = last (PM.pN s) then none else at_ D x k := fun x k => by
        rw [hX, at_put hptE, at_upD, at_cut]
      have hup : ∀ x d, x ≠ n → D x = some d → ∃ d', D' x = some d' ∧ d'.up = d.up := fun x d hx hd => by
        have h9 : (D' x).map (·.up) = some d.up := by
          rw [hX]
          have e1 : (putD (upD (cutD D pf (last (PM.pN s))) n pt) pt (last (PM.pN t)) n x).map (·.up) = (upD (cutD D pf (last (PM.pN s))) n pt x).map (·.up) := by
            by_cases e : x = pt
            · subst e
              unfold putD
              rw [if_pos rfl, Option.map_map]; rfl
            · rw [putD_ne e]
          rw [e1, upD_ne hx, cutD_up, hd]; rfl
        obtain ⟨d', h10, h11⟩ := Option.map_eq_some_iff.1 h9
        exact ⟨d', h10, h11⟩
      have hkeep : ∀ x k b, at_ D x k = some b → b ≠ n → at_ D' x k = some b := fun x k b hb hbn => by
        rw [hat', if_neg (fun e => by rw [e.1, e.2, hm] at hb; cases hb), if_neg (fun e => by rw [e.1, e.2, hn] at hb; cases hb; exact hbn rfl)]
        exact hb
      obtain ⟨d1, hd1, -⟩ := h.root
      have h1n : D 1 ≠ none := by rw [hd1]; simp
      have hgt' : goes D' 1 (PM.pN t).dropLast = .ok pt := goes_moved h hptn hapt (fun x hx e => hx ((hdom x).1 e)) hkeep (qa := 0) (fun k hk => hdt k (List.dropLast_subset _ hk)) hgt h1n rfl
      have hgf' : goes D' 1 (PM.pN s).dropLast = .ok pf := goes_moved h hpfn hapf (fun x hx e => hx ((hdom x).1 e)) hkeep (qa := 0) (fun k hk => hds k (List.dropLast_subset _ hk)) hgf h1n rfl
      have hpt' : D' pt ≠ none := fun e => hptn ((hdom pt).1 e)
      have hpf' : D' pf ≠ none := fun e => hpfn ((hdom pf).1 e)
      have hat1 : at_ D' pt (last (PM.pN t)) = some n := by rw [hat', if_pos ⟨rfl, rfl⟩]
      have hat2 : at_ D' pf (last (PM.pN s)) = none := by rw [hat', if_neg (fun e => hdiff ⟨e.1.symm, e.2.symm⟩), if_pos ⟨rfl, rfl⟩]
      refine ⟨n, D', ?_, ?_, ?_, ?_, ?_⟩
      · unfold mvS
        rw [hn, hm]
        simp only [Option.getD_some]
        rw [hD']
      · rw [findR_ok p0]
        refine find_of ?_ fun e => hsl ⟨e.2, .inl e.1⟩
        rw [hgs1, step_at hpfn hz1, hn]
      · rw [findR_ok p1]
        refine find_of ?_ fun e => hsl ⟨(hdom n).1 e.2, .inr e.1⟩
        rw [goes_last n2 hgt', step_at hpt' hz2, hat1]
      · rw [findR_ok p0]
        unfold find
        rw [goes_last n1 hgf', step_at hpf' hz1, hat2]
        show (11 : Int) ≠ 0
        decide
      · have hrq : Reach D' (far D pf) pf := reach_avoid hup hrf (hapf _ hrf)
        have hmv2 : movV D' (far D' pf) pt (last (PM.pN t)) (PM.pD t) pf (last (PM.pN s)) (PM.pD s) = 0 := by
          unfold movV
          rw [if_neg (by rw [hk1, hk2]; simp), hat1]
          simp only
          rw [if_neg (fun e => hsl ⟨(hdom n).1 e.1, e.2.symm⟩), hat2]
          simp only
          rw [far_reach hrq, anc_avoid hup hrf (hapf _ hrf), if_neg (fun e => hapf _ hrf e.2)]
        unfold src dst placeC
        rw [if_neg (fun e => e p1), if_neg (fun e => e p0), if_neg n1, place_of n2 hgt' hpt']
        simp only
        rw [place_of n1 hgf' hpf']
        simp only [hmv2, if_true]
        unfold mvS
        rw [hat1, hat2]
        simp only [Option.getD_some]
        have hback : movD D' pt (last (PM.pN t)) pf (last (PM.pN s)) n = D := by
          rw [movD_eq hnpf, hX]
          obtain ⟨dE, hdE, hlE⟩ := look_of hptE (k := last (PM.pN t)) (by rw [at_upD, at_cut]; split <;> first | rfl | exact hm)
          rw [cut_put_id hdE hlE, upD_upD]
          obtain ⟨d5, h5, h6⟩ := at_look hn
          rw [upD_id (fun d hd => by
            rw [cutD_ne hnpf] at hd
            exact (h.ent pf d5 _ n h5 h6).2 d hd)]
          exact put_cut_id h5 (h.asc pf d5 h5).1 h6
        rw [hback]
end
end NT
end Go.Proofs.YtmnmheocmcmpmaaGreat

namespace Go.Proofs.YtmnmheocmcmpmaaGreat
open Go.ChangeShapes Go.WideShapes Go.ChangeAt Go.RowKit Go.Maps
open Go.ChangeMaps (open_string shut_string)
set_option linter.unusedVariables false
set_option linter.unusedSimpArgs false
open RN
open NT
set_option maxRecDepth 100000 in
set_option maxHeartbeats 8000000 in
theorem dotted_any (s : ByteArray) (hs : s.size ≤ maxLen) (w : World) : Calls Tryz.prog 25 #[.string s] w fun e w' => ∃ b : Bool, e = .returned (.bool b) ∧ (b = false → ∀ k ∈ PM.pN s, k ≠ PM.dot ∧ k ≠ PM.dots) ∧ Below w.heap.size w w' := by
  have cP := W_hid (rparsed (w := w) hs)
  have hpl := pN_len s
  generalize PM.perr s = pe at cP
  generalize PM.pN s = ns at *
  generalize PM.pD s = d at cP
  generalize PM.pA s = a at cP
  go_enter Tryz.func25, Tryz.ntmps25
  go_wp2_with fail
  refine cP.out.mono ?_
  rintro e w1 ⟨ao, N, cap, rfl, hS, b1⟩
  have P1 : Hid (Blk (w1.alloc (.cells #[.bool a, .slice ao N cap, .bool d] 136)) w1.heap.size 136 [.bool a, .slice ao N cap, .bool d]) := W_hid (Blk.new _ _ _ rfl)
  have T1 : Hid (SS (w1.alloc (.cells #[.bool a, .slice ao N cap, .bool d] 136)) ao N cap ns) := W_hid (hS.alloc _)
  have hN1 : N ≤ 100000 := by have := hS.1; omega
  have hlen := W_hid hS.1
  have B1 := W_hid (b1.alloc b1.size (.cells #[.bool a, .slice ao N cap, .bool d] 136))
  have c1 := P1.out.cell (j := 1) rfl
  clear b1
  go_wp2_with fail
  obtain ⟨W1, hW1⟩ : ∃ W1, w1.alloc (.cells #[.bool a, .slice ao N cap, .bool d] 136) = W1 := ⟨_, rfl⟩
  rw [hW1] at T1 B1 c1 ⊢
  clear hS cP P1 hW1
  go_loopw [5] (fun v wr => ∃ j : Nat, j ≤ N ∧ v = .int .i64 (j : Int) ∧ Hid (∀ k ∈ ns.take j, k ≠ PM.dot ∧ k ≠ PM.dots) ∧ W1 = wr) (fun v _ => N - (intOf v).toNat)
  case atStart => exact ⟨0, Nat.zero_le _, rfl, W_hid (fun k hk => by simp at hk), rfl⟩
  case round =>
    obtain ⟨j, hj, rfl, hdl, hwr⟩ := hrel
    subst hwr
    by_cases hlt : j < N
    · have hjn : j < ns.length := by rw [hlen.out]; exact hlt
      obtain ⟨blk, off, rfl, hcc⟩ := T1.out.at_ (by omega)
      have hc := hcc j hlt
      have htk : ns.take (j + 1) = ns.take j ++ [ns[j]] := List.take_succ_eq_append_getElem hjn
      obtain ⟨x, hx⟩ : ∃ x, ns[j]'hjn = x := ⟨_, rfl⟩
      rw [hx] at htk
      simp only [hx] at hc
      clear hcc hx
      by_cases k1 : x = PM.dot
      · have f1 := dot_yes k1
        clear htk k1 hdl
        go_wp2_with fail
        go_ret
        exact ⟨true, rfl, (fun h => by cases h), B1.out⟩
      · obtain ⟨f1, f2⟩ := dot_no k1
        by_cases k2 : x = PM.dots
        · have f3 := dots_yes k2
          clear htk k1 k2 hdl
          go_wp2_with fail
          go_ret
          exact ⟨true, rfl, (fun h => by cases h), B1.out⟩
        · obtain ⟨f3, f4⟩ := dots_no k2
          have hdl2 : Hid (∀ k ∈ ns.take (j + 1), k ≠ PM.dot ∧ k ≠ PM.dots) := W_hid (fun k hk => by
            rw [htk] at hk
            rcases List.mem_append.1 hk with hk | hk
            · exact hdl.out k hk
            · rw [List.mem_singleton.1 hk]; exact ⟨k1, k2⟩)
          clear htk k1 k2 hdl
          go_wp2_with fail
          go_roundw
          case rel => exact ⟨j + 1, by omega, by go_num, hdl2, by first | trivial | rfl⟩
          case measure => simp [intOf]; omega
    · obtain rfl : j = N := by omega
      have hfin : Hid (∀ k ∈ ns, k ≠ PM.dot ∧ k ≠ PM.dots) := W_hid (by have := hdl.out; rw [List.take_of_length_le (by rw [hlen.out]; exact Nat.le_refl _)] at this; exact this)
      clear hdl T1
      go_wp2_with fail
      go_ret
      exact ⟨false, rfl, fun _ => hfin.out, B1.out⟩
set_option maxRecDepth 100000 in
set_option maxHeartbeats 32000000 in
theorem NamesBack_walk (o0 : Option Addr) (n0 c0 : Nat) (l0 : List OpT12) (a1 a2 : ByteArray) (w : World) (w0 : OS12 w o0 n0 c0 l0) (w1 : a1.size ≤ maxLen) (w2 : a2.size ≤ maxLen) :
    Calls Tryz.prog 5 #[.slice o0 n0 c0, .string a1, .string a2] w fun e w' => e = .returned (.bool true) ∧ Below w.heap.size w w' := by
  have hs1 := w1
  have hs2 := w2
  clear w1 w2
  have cS := W_hid (shown12 w)
  have hops := W_hid (fun (W : World) (hb : Below w.heap.size w W) => show OS12 W o0 n0 c0 l0 from by
    obtain ⟨h1, h2, h3⟩ := w0
    refine ⟨h1, h2, fun j hj => ?_⟩
    obtain ⟨blk, off, e, hlt, k0, k1, k2, k3, z⟩ := h3 j hj
    have kk : ∀ {a : Nat} {u : Value}, w.cell? ⟨blk, a, none⟩ = some u → W.cell? ⟨blk, a, none⟩ = some u := fun {a u} hc => by rw [hb.cell (p := ⟨blk, a, none⟩) hlt]; exact hc
    exact ⟨blk, off, e, Nat.lt_of_lt_of_le hlt hb.size, kk k0, kk k1, kk k2, kk k3, z⟩)
  clear w0
  have cD1 := fun w => W_hid (dotted_any a1 hs1 w)
  have cD2 := fun w => W_hid (dotted_any a2 hs2 w)
  go_enter Tryz.func5, Tryz.ntmps5
  go_wp2_with fail
  refine cS.out.mono ?_
  rintro e w1 ⟨rfl, bb1⟩
  have B1 := W_hid bb1
  clear bb1 cS
  go_wp2_with fail
  refine (cD1 _).out.mono ?_
  rintro e u1 ⟨y1, rfl, hy1, bu1⟩
  have B1 := W_hid (B1.out.trans (bu1.mono B1.out.size))
  replace hy1 := W_hid hy1
  clear bu1
  go_wp2_with fail
  refine (cD2 _).out.mono ?_
  rintro e u2 ⟨y2, rfl, hy2, bu2⟩
  have B1 := W_hid (B1.out.trans (bu2.mono B1.out.size))
  replace hy2 := W_hid hy2
  have cR := W_hid (run_any o0 n0 c0 l0 u2 (hops.out u2 B1.out))
  clear bu2 hops cD1 cD2
  go_wp2_with fail
  by_cases hy : y1 = false ∧ y2 = false
  rotate_left
  · refine cR.out.mono ?_
    rintro e w2 ⟨b1', tg, sg, mb, S, D, rfl, hb1, hP2, bb2⟩
    have B2 := W_hid (B1.out.trans (bb2.mono B1.out.size))
    clear hP2 bb2 hb1
    have hyy : y1 = true ∨ (y1 = false ∧ y2 = true) := by cases y1 <;> cases y2 <;> simp at hy ⊢
    replace hy := W_hid hy
    rcases hyy with rfl | ⟨rfl, rfl⟩ <;>
    · go_wp2_with fail
      go_ret
      exact ⟨rfl, B2.out⟩
  obtain ⟨rfl, rfl⟩ := hy
  have hd1 := W_hid (hy1.out rfl)
  have hd2 := W_hid (hy2.out rfl)
  clear hy1 hy2
  refine cR.out.mono ?_
  rintro e w2 ⟨b1', tg, sg, mb, S, D, rfl, hb1, hP2, bb2⟩
  have hB1 : w.heap.size ≤ b1' := Nat.le_trans B1.out.size hb1
  have B2 := W_hid (B1.out.trans (bb2.mono B1.out.size))
  have cA := W_hid (all_p w2 hP2)
  have hlen1 : (IN.lst S 12).length ≤ 12 := IN.lst_len S 12
  replace hP2 := W_hid hP2
  clear bb2 cR hb1 B1
  go_wp2_with fail
  refine cA.out.mono ?_
  rintro e w3 ⟨v3, rfl, ho3, bb3⟩
  obtain ⟨a3, k3, rfl⟩ := Own.form ho3
  have hP3 := W_hid (hP2.out.keep bb3)
  have B3 := W_hid (B2.out.trans (bb3.mono B2.out.size))
  replace ho3 := W_hid ho3
  clear bb3 cA hP2 B2
  have hti := hP3.out.ti
  have cF := W_hid (find_p a1 hs1 w3 hP3.out)
  go_wp2_with fail
  refine cF.out.mono ?_
  rintro e w4 ⟨rfl, b4⟩
  have hP4 := W_hid (hP3.out.keep b4)
  have ho4 := W_hid (Own.below ho3.out b4)
  have B4 := W_hid (B3.out.trans (b4.mono B3.out.size))
  have cG := W_hid (find_p a2 hs2 w4 hP4.out)
  clear b4 hP3 ho3 B3 cF
  go_wp2_with fail
  refine cG.out.mono ?_
  rintro e w5 ⟨rfl, b5⟩
  have hP5 := W_hid (hP4.out.keep b5)
  have ho5 := W_hid (Own.below ho4.out b5)
  have B5 := W_hid (B4.out.trans (b5.mono B4.out.size))
  clear b5 hP4 ho4 B4 cG
  have cX := rename_p a1 a2 hs1 hs2 w5 hP5.out (by decide)
  obtain ⟨r, hr⟩ : ∃ r, (ren S D a1 a2).1 = r := ⟨_, rfl⟩
  rw [hr] at cX
  by_cases hr0 : r = 0
  · subst hr0
    by_cases ht0 : er (findR D a2) = 0
    · rw [ht0]
      generalize nu (findR D a2) = y1
      generalize nu (findR D a1) = y2
      generalize er (findR D a1) = y3
      generalize (ren S D a1 a2).2.1 = S' at cX
      generalize (ren S D a1 a2).2.2 = D' at cX
      replace cX := W_hid cX
      replace ht0 := W_hid ht0
      replace hr := W_hid hr
      go_wp2_with fail
      refine cX.out.mono ?_
      rintro e w6 ⟨rfl, hP6, hK6⟩
      have B6 := W_hid (B5.out.trans ((below_of (Below.refl _ _) hK6 (Nat.le_refl _)).mono hB1))
      clear hP6 hK6 hP5 ho5 B5 cX
      go_wp2_with fail
      go_ret
      exact ⟨rfl, B6.out⟩
    · obtain ⟨n, D', g1, g2, g3, g4, g5⟩ := back_ok hti hd1.out hd2.out hr ht0
      rw [g1] at cX
      have ht1 : (er (findR D a2) == 0) = false := by simpa using ht0
      have hh1 : (er (findR D' a1) != 0) = true := by simpa using g4
      generalize nu (findR D a2) = y1
      generalize er (findR D a2) = y2 at *
      rw [g2]
      simp only [nu, er]
      replace cX := W_hid cX
      replace ht0 := W_hid ht0
      go_wp2_with fail
      refine cX.out.mono ?_
      rintro e w6 ⟨rfl, hP6, hK6⟩
      have ho6 := W_hid (row_keeps ho5.out (by decide) (by decide) (by decide) hK6)
      have B6 := W_hid (B5.out.trans ((below_of (Below.refl _ _) hK6 (Nat.le_refl _)).mono hB1))
      have cA1 := find_p a2 hs2 w6 hP6
      rw [g3] at cA1
      simp only [nu, er] at cA1
      replace cA1 := W_hid cA1
      replace hP6 := W_hid hP6
      clear hK6 hP5 ho5 B5 cX
      go_wp2_with fail
      refine cA1.out.mono ?_
      rintro e w7 ⟨rfl, b7⟩
      have hP7 := W_hid (hP6.out.keep b7)
      have ho7 := W_hid (Own.below ho6.out b7)
      have B7 := W_hid (B6.out.trans (b7.mono B6.out.size))
      have cA2 := W_hid (find_p a1 hs1 w7 hP7.out)
      clear b7 hP6 ho6 B6 cA1
      go_wp2_with fail
      refine cA2.out.mono ?_
      rintro e w8 ⟨rfl, b8⟩
      have hP8 := W_hid (hP7.out.keep b8)
      have ho8 := W_hid (Own.below ho7.out b8)
      have B8 := W_hid (B7.out.trans (b8.mono B7.out.size))
      have cA3 := rename_p a2 a1 hs2 hs1 w8 hP8.out (by decide)
      rw [g5] at cA3
      replace cA3 := W_hid cA3
      generalize nu (findR D' a1) = y3
      generalize er (findR D' a1) = y4 at *
      replace g4 := W_hid g4
      clear b8 hP7 ho7 B7 cA2
      go_wp2_with fail
      refine cA3.out.mono ?_
      rintro e w9 ⟨rfl, hP9, hK9⟩
      have ho9 := W_hid (row_keeps ho8.out (by decide) (by decide) (by decide) hK9)
      have B9 := W_hid (B8.out.trans ((below_of (Below.refl _ _) hK9 (Nat.le_refl _)).mono hB1))
      have cA4 := find_p a1 hs1 w9 hP9
      rw [g2] at cA4
      simp only [nu, er] at cA4
      replace cA4 := W_hid cA4
      replace hP9 := W_hid hP9
      clear hK9 hP8 ho8 B8 cA3
      go_wp2_with fail
      refine cA4.out.mono ?_
      rintro e w10 ⟨rfl, b10⟩
      have hP10 := W_hid (hP9.out.keep b10)
      have ho10 := W_hid (Own.below ho9.out b10)
      have B10 := W_hid (B9.out.trans (b10.mono B9.out.size))
      have cZ := W_hid (all_p w10 hP10.out)
      have hnn : (n == n) = true := by simp
      clear b10 hP9 ho9 B9 cA4 g1 g2 g3 g5
      go_wp2_with fail
      refine (cZ.out).mono ?_
      rintro e z1 ⟨vz, rfl, hoz, bz⟩
      obtain ⟨az, kz, rfl⟩ := Own.form hoz
      have cE := W_hid (IN.Same_yes _ _ _ _ (IN.lst S 12) z1 (by omega) hoz (Own.below ho10.out bz))
      have BZ := W_hid (B10.out.trans (bz.mono B10.out.size))
      clear bz hoz cZ
      go_wp2_with fail
      refine cE.out.mono ?_
      rintro e z2 ⟨rfl, bz2⟩
      have BY := W_hid (BZ.out.trans (bz2.mono BZ.out.size))
      go_wp2_with fail
      go_ret
      exact ⟨rfl, BY.out⟩
  · have hr1 : (r != 0) = true := by simpa using hr0
    have hr2 : (r == 0) = false := by simpa using hr0
    have hSD := ren_ne (S := S) (D := D) (s := a1) (t := a2) (by rw [hr]; exact hr0)
    rw [hSD] at cX
    generalize nu (findR D a2) = y1
    generalize er (findR D a2) = y2
    generalize nu (findR D a1) = y3
    generalize er (findR D a1) = y4
    replace cX := W_hid cX
    replace hr0 := W_hid hr0
    clear hr hSD
    go_wp2_with fail
    refine cX.out.mono ?_
    rintro e w6 ⟨rfl, hP6, hK6⟩
    have ho6 := W_hid (row_keeps ho5.out (by decide) (by decide) (by decide) hK6)
    have B6 := W_hid (B5.out.trans ((below_of (Below.refl _ _) hK6 (Nat.le_refl _)).mono hB1))
    have cZ := W_hid (all_p w6 hP6)
    clear hK6 hP5 ho5 B5 cX hP6
    go_wp2_with fail
    refine (cZ.out).mono ?_
    rintro e z1 ⟨vz, rfl, hoz, bz⟩
    obtain ⟨az, kz, rfl⟩ := Own.form hoz
    have cE := W_hid (IN.Same_yes _ _ _ _ (IN.lst S 12) z1 (by omega) hoz (Own.below ho6.out bz))
    have BZ := W_hid (B6.out.trans (bz.mono B6.out.size))
    clear bz hoz cZ
    go_wp2_with fail
    refine cE.out.mono ?_
    rintro e z2 ⟨rfl, bz2⟩
    have BY := W_hid (BZ.out.trans (bz2.mono BZ.out.size))
    go_wp2_with fail
    go_ret
    exact ⟨rfl, BY.out⟩
set_option maxRecDepth 100000 in
theorem NamesBack_lifted (os : Os) (started : os.Started) (H : Type) (enc : TypeId × Value → H) :
    ReturnsInHanded {} Tryz.checked os 5 .any (Rows.namesBackSpec.pre6 enc Tryz.prog Tryz.f5 Rows.namesBackRow.domain false) (Rows.namesBackSpec.post enc Tryz.prog Tryz.f5 false true false false) := by
  refine returnsInHanded_of_change (C := Tryz.checked) (by kernel_rfl) started (by kernel_rfl) Tryz.func5
    (ChangeSpec.witness6 (enc := enc) (C := Tryz.checked) false ⟨#[], #[.slice none 0 0, .string ByteArray.empty, .string ByteArray.empty], []⟩ 8 (by kernel_rfl) (by kernel_rfl) (by kernel_rfl) (by kernel_rfl)) ?_
  intro W base args ds gs before hval0 hW hcnd _
  have hval : ∀ (j : Nat) t v, Tryz.f5.params[j]? = some t → args[j]? = some v → Value.okWide Tryz.prog W .any base t v := hval0
  have hW' := hW
  obtain ⟨p, q, hA0, hV, rfl, hfz, hnd⟩ := hW
  have hA : DataW.TrodAll enc Tryz.prog W 0 (fun _ => true) true Tryz.f5.params.toList args.toList ds p := hA0
  rw [Tryz.params5] at hA hval
  obtain ⟨v0, vs0, d0, ds0, p0, q0, hargs, rfl, rfl, h0, r0⟩ := trodAll_cons hA
  obtain ⟨v1, vs1, d1, ds1, p1, q1, rfl, rfl, rfl, h1, r1⟩ := trodAll_cons r0
  obtain ⟨v2, vs2, d2, ds2, p2, q2, rfl, rfl, rfl, h2, r2⟩ := trodAll_cons r1
  obtain ⟨rfl, rfl, rfl⟩ := trodAll_nil r2
  obtain rfl : args = #[v0, v1, v2] := by cases args; simp_all
  obtain ⟨rfl, rfl⟩ := trodVars_none hV
  have k0 := h0
  have lt0 : ∀ x ∈ p0, x.block < W.heap.size := by obtain ⟨m, hm⟩ := k0; exact DataW.trod_lt m _ _ _ hm
  obtain ⟨o0, n0, c0, l0, rfl, w0⟩ := open_ops12 (hval 0 22 v0 rfl rfl) h0
  obtain ⟨a1, rfl, rfl, rfl, w1⟩ := open_string Tryz.underlying9 (hval 1 9 v1 rfl rfl) h1
  obtain ⟨a2, rfl, rfl, rfl, w2⟩ := open_string Tryz.underlying9 (hval 2 9 v2 rfl rfl) h2
  clear hA0 hval0
  refine (NamesBack_walk o0 n0 c0 l0 a1 a2 W w0 w1 w2).mono fun e W' ⟨he, bel⟩ => ?_
  subst he
  exact ⟨_, rfl, _, _, _, [], _, [], hW', trodAll_mk1 (shut_bool Tryz.underlying4 _), (trodAll_cons_mk (Below.trod laidOut (by kernel_rfl) (of_decide_eq_true (by kernel_rfl)) k0 bel lt0) (trodAll_cons_mk (shut_string Tryz.underlying9 w1) (trodAll_cons_mk (shut_string Tryz.underlying9 w2) trodAll_mk0))), rfl, bel.frame _, fun h => by cases h⟩
theorem NamesBack_holds : Rows.NamesBackSaid :=
  OpenClaim.holds_of_wide 5 Tryz.f5 rfl rfl rfl rfl rfl rfl rfl ⟨rfl, rfl, rfl, rfl, rfl⟩ rfl rfl rfl rfl rfl (by kernel_rfl) Tryz.func5 (by kernel_rfl)
    (of_decide_eq_true (by kernel_rfl)) (by unfold Func.isWrapper; first | (rw [if_pos (by decide +kernel)]; kernel_rfl) | (rw [if_neg (by decide +kernel)]; exact ⟨rfl, rfl⟩))
    (fun os started H enc _ => NamesBack_lifted os started H enc)
end Go.Proofs.YtmnmheocmcmpmaaGreat
