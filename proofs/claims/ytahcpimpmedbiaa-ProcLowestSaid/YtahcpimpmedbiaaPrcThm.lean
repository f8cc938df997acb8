/- Layer 14: what follows of calls one behind the other; plain. -/
import Derived.Test.YtahcpimpmedbiaaPrcRan
namespace Go.Proofs.Ytahcpimpmedbiaa
set_option linter.unusedVariables false
set_option linter.unusedSimpArgs false
namespace PC

theorem spawnR_cases (N : Nat) (L : List Pr) (p a : Int) : (∃ e, (e = 19 ∨ e = 2 ∨ e = 25) ∧ spawnR N L p a = ((0, e), L)) ∨ (runs L p = true ∧ L.length ≠ N ∧ spawnR N L p a = (((low L : Int) + 1, 0), spawnL L p a)) := by
  unfold spawnR
  cases hr : runs L p with
  | false => exact .inl ⟨19, .inl rfl, if_pos rfl⟩
  | true =>
    rw [if_neg (by simp)]
    cases hn : isNice a with
    | false => exact .inl ⟨2, .inr (.inl rfl), if_pos rfl⟩
    | true =>
      rw [if_neg (by simp)]
      by_cases h : L.length = N
      · exact .inl ⟨25, .inr (.inr rfl), if_pos h⟩
      · exact .inr ⟨rfl, h, if_neg h⟩
theorem filter_single {f : Pr → Bool} {x : Pr} : ∀ {L : List Pr}, Asc L → x ∈ L → f x = true → (∀ y ∈ L, f y = true → y = x) → L.filter f = [x]
  | [], _, hx, _, _ => absurd hx (by simp)
  | a :: r, ha, hx, hf, hy => by
    have ha' := List.pairwise_cons.1 ha
    rw [List.filter_cons]
    by_cases hfa : f a = true
    · have e := hy a List.mem_cons_self hfa
      rw [if_pos hfa, e]
      have : r.filter f = [] := by
        rw [List.filter_eq_nil_iff]
        intro z hz hfz
        have e2 := hy z (List.mem_cons_of_mem _ hz) hfz
        have := ha'.1 z hz
        rw [e2, e] at this
        omega
      rw [this]
    · rw [if_neg hfa]
      have hxr : x ∈ r := by
        rcases List.mem_cons.1 hx with e | e
        · rw [e] at hf; exact absurd hf hfa
        · exact e
      exact filter_single ha'.2 hxr hf fun y hyr => hy y (List.mem_cons_of_mem _ hyr)
section
variable {N : Nat} {L : List Pr}
theorem low_pos (h : Good N L) : 1 ≤ low L := by
  obtain ⟨x1, m1, p1, -, -⟩ := h.one
  rcases Nat.eq_zero_or_pos (low L) with e | e
  · have := low_free h.asc h.ge x1 m1
    rw [e] at this
    exact absurd p1 (by simpa using this)
  · exact e
theorem par_ne (h : Good N L) {p : Int} (hr : runs L p = true) : p ≠ (low L : Int) + 1 := by
  obtain ⟨y, hy, h1, -⟩ := (runs_iff h.asc).1 hr
  rw [← h1]
  exact low_free h.asc h.ge y hy
theorem runs_spawn (h : Good N L) {p q : Int} (a : Int) (hr : runs L q = true) : runs (spawnL L p a) q = true := by
  obtain ⟨y, hy, h1, h2⟩ := (runs_iff h.asc).1 hr
  exact (runs_iff (asc_spawn h.asc h.ge p a)).2 ⟨y, mem_spawn.2 (.inr hy), h1, h2⟩
theorem runs_new (h : Good N L) (p a : Int) : runs (spawnL L p a) ((low L : Int) + 1) = true :=
  (runs_iff (asc_spawn h.asc h.ge p a)).2 ⟨newP L p a, mem_spawn.2 (.inl rfl), rfl, rfl⟩
/-- Who has ended is told once. -/
theorem told_once (h : Good N L) {p : Int} (c : Int) (hr : runs L p = true) (hl : L.length ≠ N) :
    ∃ L2 L3, waitR (spawnL L p 0) p ((low L : Int) + 1) = ((zeroP, 25), spawnL L p 0) ∧ exitR (spawnL L p 0) ((low L : Int) + 1) c = (0, L2) ∧ waitR L2 p ((low L : Int) + 1) = ((⟨(low L : Int) + 1, p, 2, c, 0⟩, 0), L3) ∧ waitR L3 p ((low L : Int) + 1) = ((zeroP, 20), L3) ∧ getR L3 ((low L : Int) + 1) = (zeroP, false) := by
  have hG1 := good_spawn (nice := 0) h hr hl
  have hpn := par_ne h hr
  have hlp := low_pos h
  have hr1 := runs_spawn (p := p) h 0 hr
  have hn := runs_new h p 0
  obtain ⟨n, hn0⟩ : ∃ n : Int, (low L : Int) + 1 = n := ⟨_, rfl⟩
  have hn1 : 2 ≤ n := by omega
  have hnew : newP L p 0 = ⟨n, p, 1, 0, 0⟩ := by unfold newP; rw [hn0]
  rw [hn0] at hpn hn ⊢
  obtain ⟨L1, hL1⟩ : ∃ L1, spawnL L p 0 = L1 := ⟨_, rfl⟩
  have hm : (⟨n, p, 1, 0, 0⟩ : Pr) ∈ L1 := by rw [← hL1, ← hnew]; exact mem_spawn.2 (.inl rfl)
  rw [hL1] at hG1 hr1 hn ⊢
  have hk1 : kids L1 p n = [⟨n, p, 1, 0, 0⟩] := by
    refine filter_single hG1.asc hm (by simp [kid]) fun y hy hk => ?_
    have : y.pid = n := by
      simp [kid] at hk
      omega
    exact asc_inj hG1.asc hy hm this
  have hasc2 : Asc (exitL L1 n c) := asc_map hG1.asc (exP_pid n c)
  have hex : exP n c ⟨n, p, 1, 0, 0⟩ = ⟨n, p, 2, c, 0⟩ := by
    unfold exP setEnd setPar
    simp [hpn]
  have hm2 : (⟨n, p, 2, c, 0⟩ : Pr) ∈ exitL L1 n c := List.mem_map.2 ⟨_, hm, hex⟩
  have hk2 : kids (exitL L1 n c) p n = [⟨n, p, 2, c, 0⟩] := by
    refine filter_single hasc2 hm2 (by simp [kid]) fun y hy hk => ?_
    have : y.pid = n := by
      simp [kid] at hk
      omega
    exact asc_inj hasc2 hy hm2 this
  have hr2 : runs (exitL L1 n c) p = true := by
    obtain ⟨y, hy, h1, h2⟩ := (runs_iff hG1.asc).1 hr1
    refine (runs_iff hasc2).2 ⟨exP n c y, List.mem_map.2 ⟨y, hy, rfl⟩, by rw [exP_pid, h1], ?_⟩
    have : y.pid ≠ n := by rw [h1]; exact hpn
    unfold exP setEnd setPar
    rw [if_neg this]
    split <;> exact h2
  have hr3 : runs (dropL (exitL L1 n c) n) p = true := by
    obtain ⟨y, hy, h1, h2⟩ := (runs_iff hasc2).1 hr2
    exact (runs_iff (asc_drop hasc2 n)).2 ⟨y, mem_drop.2 ⟨hy, by rw [h1]; exact hpn⟩, h1, h2⟩
  have hk3 : kids (dropL (exitL L1 n c) n) p n = [] := by
    unfold kids
    rw [List.filter_eq_nil_iff]
    intro y hy hk
    have := (mem_drop.1 hy).2
    simp [kid] at hk
    omega
  have hneg : ¬ n < 0 := by omega
  refine ⟨exitL L1 n c, dropL (exitL L1 n c) n, ?_, ?_, ?_, ?_, ?_⟩
  · unfold waitR ended
    rw [hr1, if_neg (by simp), if_neg hneg, hk1, if_neg (by simp)]
    rfl
  · unfold exitR
    rw [hn, if_neg (by simp), if_neg (by omega)]
  · unfold waitR ended
    rw [hr2, if_neg (by simp), if_neg hneg, hk2, if_neg (by simp)]
    rfl
  · unfold waitR
    rw [hr3, if_neg (by simp), if_neg hneg, hk3, if_pos rfl]
  · unfold getR
    have : get (dropL (exitL L1 n c) n) n = none := get_none.2 fun y hy => (mem_drop.1 hy).2
    rw [this]
/-- What is undone leaves no trace. -/
theorem undone (h : Good N L) {p a : Int} (hr : runs L p = true) (hl : L.length ≠ N) : undoR (spawnL L p a) ((low L : Int) + 1) = (0, L) := by
  have hpn := par_ne h hr
  have hlp := low_pos h
  have hn := runs_new h p a
  have hk : kids (spawnL L p a) ((low L : Int) + 1) 0 = [] := by
    unfold kids
    rw [List.filter_eq_nil_iff]
    intro y hy hk
    have hpar : y.par = (low L : Int) + 1 := by simpa [kid] using hk
    rcases mem_spawn.1 hy with rfl | hy
    · exact hpn hpar
    · by_cases h1 : y.pid = 1
      · obtain ⟨x1, m1, p1, -, q1⟩ := h.one
        have := asc_inj h.asc hy m1 (by rw [h1, p1])
        subst this
        omega
      · exact par_ne h (h.par y hy h1).2 hpar
  have hd : dropL (spawnL L p a) ((low L : Int) + 1) = L := by
    have hf : ∀ l : List Pr, (∀ x ∈ l, x ∈ L) → l.filter (fun x => !hasP ((low L : Int) + 1) x) = l := fun l hs => by
      rw [List.filter_eq_self]
      intro x hx
      have := low_free h.asc h.ge x (hs x hx)
      simp [hasP, this]
    unfold dropL spawnL
    rw [List.filter_append, List.filter_cons, if_neg (by simp [hasP, newP]), hf _ (fun x hx => List.mem_of_mem_take hx), hf _ (fun x hx => List.mem_of_mem_drop hx), List.take_append_drop]
  unfold undoR
  rw [hn, if_neg (by simp), hk, if_neg (by simp; omega), hd]
/-- Errors change nothing. -/
theorem spawn_idle (p a : Int) (h : (spawnR N L p a).1.2 ≠ 0) : (spawnR N L p a).2 = L := by
  rcases spawnR_cases N L p a with ⟨e, -, h1⟩ | ⟨-, -, h1⟩
  · rw [h1]
  · rw [h1] at h; exact absurd rfl h
theorem exit_idle (p a : Int) (h : (exitR L p a).1 ≠ 0) : (exitR L p a).2 = L := by
  unfold exitR at h ⊢
  split
  · rfl
  · rename_i h1
    rw [if_neg h1] at h
    split
    · rfl
    · rename_i h2
      rw [if_neg h2] at h
      exact absurd rfl h
theorem wait_idle (p a : Int) (h : (waitR L p a).1.2 ≠ 0) : (waitR L p a).2 = L := by
  unfold waitR at h ⊢
  split
  · rfl
  · rename_i h1
    rw [if_neg h1] at h
    split
    · rfl
    · rename_i h2
      rw [if_neg h2] at h
      split
      · rfl
      · rename_i h3
        rw [if_neg h3] at h
        cases he : ended L p a with
        | none => rfl
        | some x => rw [he] at h; exact absurd rfl h
theorem undo_idle (p : Int) (h : (undoR L p).1 ≠ 0) : (undoR L p).2 = L := by
  unfold undoR at h ⊢
  split
  · rfl
  · rename_i h1
    rw [if_neg h1] at h
    split
    · rfl
    · rename_i h2
      rw [if_neg h2] at h
      exact absurd rfl h
theorem nice_idle (p a : Int) (h : (niceR L p a).1 ≠ 0) : (niceR L p a).2 = L := by
  unfold niceR at h ⊢
  split
  · rfl
  · rename_i h1
    rw [if_neg h1] at h
    split
    · rfl
    · rename_i h2
      rw [if_neg h2] at h
      exact absurd rfl h
/-- The first process stands first. -/
theorem first_one (h : Good N L) : ∃ (h0 : 0 < L.length), L[0].pid = 1 ∧ L[0].st = 1 ∧ L[0].par = 0 ∧ L[0].code = 0 ∧ ∀ j (hj : j < L.length), 0 < j → L[j].pid ≠ 1 := by
  obtain ⟨x1, m1, p1, s1, q1⟩ := h.one
  obtain ⟨i, hi, hx⟩ := List.getElem_of_mem m1
  have hp := List.pairwise_iff_getElem.1 h.asc
  have h0 : i = 0 := by
    rcases Nat.eq_zero_or_pos i with e | e
    · exact e
    · have h1 := hp 0 i (by omega) hi e
      have h2 := h.ge _ (List.getElem_mem (show 0 < L.length by omega))
      rw [hx, p1] at h1
      omega
  subst h0
  have hc : L[0].code = 0 := by
    rcases h.st _ (List.getElem_mem hi) with ⟨-, h3⟩ | h3
    · exact h3
    · rw [hx, s1] at h3; cases h3
  refine ⟨hi, by rw [hx, p1], by rw [hx, s1], by rw [hx, q1], hc, fun j hj hlt e => ?_⟩
  have := hp 0 j hi hj hlt
  rw [hx, p1] at this
  omega
end
end PC
end Go.Proofs.Ytahcpimpmedbiaa
