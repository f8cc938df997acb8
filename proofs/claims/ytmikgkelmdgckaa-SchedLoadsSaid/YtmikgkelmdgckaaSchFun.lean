/- A queue of processes: what each call answers, and what becomes of the queue; what a queue may be. -/
import Derived.Test.YtmikgkelmdgckaaSchMath
import Derived.Test.YtmikgkelmdgckaaSchErr
namespace Go.Proofs.Ytmikgkelmdgckaa
set_option linter.unusedVariables false
set_option linter.unusedSimpArgs false
namespace SD
open FM

/-- What loads are worth together. -/
def sumV (P : List Pr) : Nat := (P.map fun x => V x.load).sum
theorem sumV_cons (x : Pr) (P : List Pr) : sumV (x :: P) = V x.load + sumV P := rfl
theorem sumV_app (P Q : List Pr) : sumV (P ++ Q) = sumV P + sumV Q := by
  unfold sumV
  rw [List.map_append, List.sum_append]
theorem sumV_ins (P : List Pr) (x : Pr) : sumV (insP P x) = sumV P + V x.load := by
  unfold insP
  have h : sumV P = sumV (P.take (low P x.pid)) + sumV (P.drop (low P x.pid)) := by rw [← sumV_app, List.take_append_drop]
  rw [sumV_app, sumV_cons, h]
  omega
theorem sumV_del (P : List Pr) (i : Nat) : sumV (delP P i) ≤ sumV P := by
  unfold delP
  have h : sumV P = sumV (P.take i) + sumV (P.drop i) := by rw [← sumV_app, List.take_append_drop]
  rw [sumV_app, h]
  have h2 : sumV (P.drop (i + 1)) ≤ sumV (P.drop i) := by
    rw [show P.drop (i + 1) = (P.drop i).drop 1 by rw [List.drop_drop]]
    cases P.drop i with
    | nil => exact Nat.le_refl _
    | cons y t => rw [sumV_cons]; exact Nat.le_add_left _ _
  omega
theorem sumV_set {y : Pr} : ∀ (P : List Pr) (i : Nat) (x : Pr), P[i]? = some x → y.load = x.load → sumV (P.set i y) = sumV P
  | [], _, _, h, _ => by cases h
  | z :: P, 0, x, h, hy => by
    obtain rfl : z = x := by simpa using h
    show V y.load + sumV P = V z.load + sumV P
    rw [hy]
  | z :: P, i + 1, x, h, hy => by
    show V z.load + sumV (P.set i y) = V z.load + sumV P
    rw [sumV_set P i x (by simpa using h) hy]
structure Good (c : Nat) (S : Qs) : Prop where
  asc : Asc S.P
  len : S.P.length ≤ c
  llen : S.L.length ≤ c
  pid : ∀ x ∈ S.P, 1 ≤ x.pid ∧ x.pid ≤ 9223372036854775807
  nice : ∀ x ∈ S.P, -20 ≤ x.nice ∧ x.nice ≤ 19
  load : ∀ x ∈ S.P, x.load ≤ one
  nd : S.L.Nodup
  mem : ∀ q, q ∈ S.L ↔ ∃ x, get S.P q = some x ∧ x.on = true
  sum : c ≤ 60000 → sumV S.P ≤ pw 1074 + pw 1026

def onP (p : Int) (x : Pr) : Pr := { x with load := dk x.load (if x.pid = p then one else 0) }
def runP (P : List Pr) (p : Int) : List Pr := P.map (onP p)
def rl (P : List Pr) : List Pr := P.filter fun x => x.on
def rpid (P : List Pr) : List Int := (rl P).map fun x => x.pid
def wl (P : List Pr) : List Nat := (rl P).map fun x => wt x.nice
def ready (S : Qs) : List Int := lst S.P S.L 0 ++ (lst S.P S.L 1 ++ (lst S.P S.L 2 ++ (lst S.P S.L 3 ++ lst S.P S.L 4)))

def addR (S : Qs) (p n : Int) : Int × Qs :=
  if p < 1 then (2, S) else if isNice n = false then (2, S) else
  match get S.P p with
  | some _ => (12, S)
  | none => (0, ⟨insP S.P ⟨p, n, true, 0⟩, S.L ++ [p]⟩)
def remR (S : Qs) (p : Int) : Int × Qs :=
  match get S.P p with
  | none => (19, S)
  | some x => (0, ⟨delP S.P (low S.P p), off S.L p⟩)
def blkR (S : Qs) (p : Int) : Int × Qs :=
  match get S.P p with
  | none => (19, S)
  | some x => if x.on = true then (0, ⟨S.P.set (low S.P p) { x with on := false }, off S.L p⟩) else (2, S)
def wakR (S : Qs) (p : Int) : Int × Qs :=
  match get S.P p with
  | none => (19, S)
  | some x => if x.on = true then (2, S) else (0, ⟨S.P.set (low S.P p) { x with on := true }, S.L ++ [p]⟩)
def niceR (S : Qs) (p n : Int) : Int × Qs :=
  match get S.P p with
  | none => (19, S)
  | some x => if isNice n = false then (2, S) else
      (0, ⟨S.P.set (low S.P p) { x with nice := n }, if x.on = true ∧ lev n ≠ lev x.nice then off S.L p ++ [p] else S.L⟩)
def nextR (S : Qs) : (Int × Int) × Qs :=
  match ready S with
  | [] => ((0, 25), S)
  | p :: _ => ((p, 0), ⟨runP S.P p, off S.L p ++ [p]⟩)
def lotI (S : Qs) (b : Nat) : Nat := pick (prod b (sums (wl S.P))) (wl S.P)
def lotR (S : Qs) (b : Nat) : (Int × Int) × Qs :=
  if partOK b = false then ((0, 2), S) else
  if (rl S.P).length = 0 then ((0, 25), S) else
  (((rpid S.P)[lotI S b]?.getD 0, 0), ⟨runP S.P ((rpid S.P)[lotI S b]?.getD 0), S.L⟩)
def loadR (S : Qs) (p : Int) : Nat × Int :=
  match get S.P p with
  | none => (0, 19)
  | some x => (x.load, 0)
def idx (l : List Int) (p : Int) : Nat := l.findIdx fun q => decide (q = p)
def shrR (S : Qs) (p : Int) : Nat × Int :=
  match get S.P p with
  | none => (0, 19)
  | some x => if x.on = true then shareR (idx (rpid S.P) p : Nat) (wl S.P) else (0, 2)

theorem lev_lt {n : Int} (h : -20 ≤ n ∧ n ≤ 19) : lev n < 5 := by unfold lev; omega
theorem isNice_iff {n : Int} : isNice n = true ↔ -20 ≤ n ∧ n ≤ 19 := by simp [isNice]
theorem nd_off {L : List Int} (h : L.Nodup) (p : Int) : (off L p).Nodup := h.sublist (List.filter_sublist)
theorem off_len (L : List Int) (p : Int) : (off L p).length ≤ L.length := List.length_filter_le _ _
theorem off_lt {L : List Int} {p : Int} (h : p ∈ L) : (off L p).length < L.length := by
  unfold off
  rw [List.length_filter_lt_length_iff_exists]
  exact ⟨p, h, by simp⟩
theorem nd_app {L : List Int} (h : L.Nodup) {p : Int} (hp : p ∉ L) : (L ++ [p]).Nodup := by
  rw [List.nodup_append]
  refine ⟨h, by simp, ?_⟩
  intro a ha b hb e
  simp at hb
  subst hb
  exact hp (e ▸ ha)
section
variable {c : Nat} {S : Qs}
theorem Good.get_ok (h : Good c S) {p : Int} {x : Pr} (hx : get S.P p = some x) : (1 ≤ p ∧ p ≤ 9223372036854775807) ∧ (-20 ≤ x.nice ∧ x.nice ≤ 19) ∧ x.load ≤ one ∧ x.pid = p := by
  obtain ⟨h1, h2⟩ := get_some hx
  exact ⟨h2 ▸ h.pid x h1, h.nice x h1, h.load x h1, h2⟩
theorem Good.new (c : Nat) : Good c ⟨[], []⟩ := ⟨List.Pairwise.nil, by simp, by simp, by simp, by simp, by simp, by simp, by simp [get], fun _ => Nat.zero_le _⟩
theorem Good.le (h : Good c S) {d : Nat} (hd : c ≤ d) : Good d S := ⟨h.asc, Nat.le_trans h.len hd, Nat.le_trans h.llen hd, h.pid, h.nice, h.load, h.nd, h.mem, fun h2 => h.sum (Nat.le_trans hd h2)⟩
/-- A process put anew. -/
theorem Good.set (h : Good c S) {p : Int} {x y : Pr} (hx : get S.P p = some x) (hy : y.pid = p) (hn : -20 ≤ y.nice ∧ y.nice ≤ 19) (hl : y.load ≤ one) {d : Nat} (hcd : c ≤ d) {L : List Int} (hll : L.length ≤ d) (hnd : L.Nodup)
    (hm : ∀ q, q ∈ L ↔ (q = p ∧ y.on = true) ∨ (q ≠ p ∧ q ∈ S.L)) (hs : y.load = x.load := by rfl) : Good d ⟨S.P.set (low S.P p) y, L⟩ := by
  obtain ⟨h1, h2⟩ := get_some hx
  have hsum : sumV (S.P.set (low S.P p) y) = sumV S.P := by
    obtain ⟨g1, g2⟩ := get_at h.asc hx
    exact sumV_set S.P _ x (by first | exact g2 | (rw [List.getElem?_eq_getElem g1]; exact congrArg some g2)) hs
  refine ⟨asc_set h.asc hx hy, by simpa using Nat.le_trans h.len hcd, hll, fun z hz => ?_, fun z hz => ?_, fun z hz => ?_, hnd, fun q => ?_, fun hd => by rw [hsum]; exact h.sum (Nat.le_trans hcd hd)⟩
  · rcases List.mem_or_eq_of_mem_set hz with hz | rfl
    · exact h.pid z hz
    · rw [hy, ← h2]; exact h.pid x h1
  · rcases List.mem_or_eq_of_mem_set hz with hz | rfl
    · exact h.nice z hz
    · exact hn
  · rcases List.mem_or_eq_of_mem_set hz with hz | rfl
    · exact h.load z hz
    · exact hl
  · show q ∈ L ↔ ∃ z, get (S.P.set (low S.P p) y) q = some z ∧ z.on = true
    rw [hm, get_set h.asc hx hy]
    by_cases e : q = p
    · rw [if_pos e]
      simp [e]
    · rw [if_neg e, h.mem]
      simp [e]
theorem good_add (h : Good c S) {p n : Int} (hp : 1 ≤ p ∧ p ≤ 9223372036854775807) (hn : isNice n = true) (hg : get S.P p = none) : Good (c + 1) ⟨insP S.P ⟨p, n, true, 0⟩, S.L ++ [p]⟩ := by
  have hnl : p ∉ S.L := by
    rw [h.mem, hg]
    simp
  have hn' := isNice_iff.1 hn
  refine ⟨asc_ins h.asc (x := ⟨p, n, true, 0⟩) hg, ?_, ?_, fun z hz => ?_, fun z hz => ?_, fun z hz => ?_, nd_app h.nd hnl, fun q => ?_, fun hd => by
    show sumV (insP S.P ⟨p, n, true, 0⟩) ≤ _
    rw [sumV_ins]
    show sumV S.P + V 0 ≤ _
    rw [V_zero]
    exact h.sum (by omega)⟩
  · have := ins_len S.P ⟨p, n, true, 0⟩
    have := h.len
    simp only
    omega
  · have := h.llen
    simp
    omega
  · rcases mem_ins.1 hz with rfl | hz
    · exact hp
    · exact h.pid z hz
  · rcases mem_ins.1 hz with rfl | hz
    · exact hn'
    · exact h.nice z hz
  · rcases mem_ins.1 hz with rfl | hz
    · exact Nat.zero_le _
    · exact h.load z hz
  · show q ∈ S.L ++ [p] ↔ ∃ z, get (insP S.P ⟨p, n, true, 0⟩) q = some z ∧ z.on = true
    rw [get_ins h.asc (x := ⟨p, n, true, 0⟩) hg, List.mem_append, h.mem]
    by_cases e : q = p
    · simp [e]
    · simp [e]
theorem good_rem (h : Good c S) {p : Int} {x : Pr} (hx : get S.P p = some x) : Good c ⟨delP S.P (low S.P p), off S.L p⟩ := by
  obtain ⟨hl, -⟩ := get_at h.asc hx
  refine ⟨asc_del h.asc _, ?_, Nat.le_trans (off_len _ _) h.llen, fun z hz => h.pid z (mem_del hz), fun z hz => h.nice z (mem_del hz), fun z hz => h.load z (mem_del hz), nd_off h.nd p, fun q => ?_, fun hd => Nat.le_trans (sumV_del _ _) (h.sum hd)⟩
  · have := del_len hl
    have := h.len
    simp only
    omega
  · show q ∈ off S.L p ↔ ∃ z, get (delP S.P (low S.P p)) q = some z ∧ z.on = true
    rw [get_del h.asc hx, mem_off, h.mem]
    by_cases e : q = p
    · simp [e]
    · simp [e]
theorem good_blk (h : Good c S) {p : Int} {x : Pr} (hx : get S.P p = some x) : Good c ⟨S.P.set (low S.P p) { x with on := false }, off S.L p⟩ := by
  obtain ⟨-, h1, h2, h3⟩ := h.get_ok hx
  refine h.set (y := { x with on := false }) hx h3 h1 h2 (Nat.le_refl _) (Nat.le_trans (off_len _ _) h.llen) (nd_off h.nd p) fun q => ?_
  rw [mem_off]
  simp
  exact And.comm
theorem good_wak (h : Good c S) {p : Int} {x : Pr} (hx : get S.P p = some x) (hon : x.on = false) : Good (c + 1) ⟨S.P.set (low S.P p) { x with on := true }, S.L ++ [p]⟩ := by
  obtain ⟨-, h1, h2, h3⟩ := h.get_ok hx
  have hnl : p ∉ S.L := by
    rw [h.mem, hx]
    simp [hon]
  refine h.set (y := { x with on := true }) hx h3 h1 h2 (Nat.le_succ c) (by have := h.llen; simp; omega) (nd_app h.nd hnl) fun q => ?_
  rw [List.mem_append]
  by_cases e : q = p
  · simp [e]
  · simp [e]
theorem good_nice (h : Good c S) {p n : Int} {x : Pr} (hx : get S.P p = some x) (hn : isNice n = true) : Good c ⟨S.P.set (low S.P p) { x with nice := n }, if x.on = true ∧ lev n ≠ lev x.nice then off S.L p ++ [p] else S.L⟩ := by
  obtain ⟨-, h1, h2, h3⟩ := h.get_ok hx
  have hmem : p ∈ S.L ↔ x.on = true := by rw [h.mem, hx]; simp
  by_cases hc : x.on = true ∧ lev n ≠ lev x.nice
  · rw [if_pos hc]
    have hl := off_lt (hmem.2 hc.1)
    refine h.set (y := { x with nice := n }) hx h3 (isNice_iff.1 hn) h2 (Nat.le_refl c) (by have := h.llen; simp; omega) (nd_app (nd_off h.nd p) (by rw [mem_off]; simp)) fun q => ?_
    rw [List.mem_append, mem_off]
    by_cases e : q = p
    · simp [e, hc.1]
    · simp [e]
  · rw [if_neg hc]
    refine h.set (y := { x with nice := n }) hx h3 (isNice_iff.1 hn) h2 (Nat.le_refl c) h.llen h.nd fun q => ?_
    by_cases e : q = p
    · rw [e, hmem]; simp
    · simp [e]
theorem onP_pid (p : Int) (x : Pr) : (onP p x).pid = x.pid := rfl
theorem get_run (P : List Pr) (p q : Int) : get (runP P p) q = (get P q).map (onP p) := get_map (onP_pid p) q
theorem run_sum (p : Int) : ∀ P : List Pr, Asc P → (∀ x ∈ P, x.load ≤ one) → 9007199254740992 * sumV (runP P p) ≤ 4503599627370497 * (sumV P + P.length) + 9007199254740992 * (pw 1073 + pw 1022) ∧ ((∀ x ∈ P, x.pid ≠ p) → 9007199254740992 * sumV (runP P p) ≤ 4503599627370497 * (sumV P + P.length))
  | [], _, _ => ⟨Nat.zero_le _, fun _ => Nat.zero_le _⟩
  | x :: P, ha, hl => by
    have ha' := List.pairwise_cons.1 ha
    obtain ⟨i1, i2⟩ := run_sum p P ha'.2 fun y hy => hl y (by simp [hy])
    have hx := hl x (by simp)
    have e : sumV (runP (x :: P) p) = V (dk x.load (if x.pid = p then one else 0)) + sumV (runP P p) := rfl
    rw [e, sumV_cons, List.length_cons]
    have d0 := V_dk0 hx
    have d1 := V_dk1 hx
    by_cases hp : x.pid = p
    · rw [if_pos hp]
      have h2 := i2 fun y hy hyp => by have := ha'.1 y hy; omega
      exact ⟨by omega, fun hn => absurd hp (hn x (by simp))⟩
    · rw [if_neg hp]
      exact ⟨by omega, fun hn => by have := i2 fun y hy => hn y (by simp [hy]); omega⟩
theorem good_run (h : Good c S) (p : Int) {L : List Int} (hll : L.length ≤ c) (hnd : L.Nodup) (hm : ∀ q, q ∈ L ↔ q ∈ S.L) : Good c ⟨runP S.P p, L⟩ := by
  have key : ∀ z ∈ runP S.P p, ∃ y ∈ S.P, onP p y = z := fun z hz => List.mem_map.1 hz
  refine ⟨asc_map h.asc (onP_pid p), by rw [runP, List.length_map]; exact h.len, hll, fun z hz => ?_, fun z hz => ?_, fun z hz => ?_, hnd, fun q => ?_, fun hd => ?_⟩
  · obtain ⟨y, hy, rfl⟩ := key z hz; exact h.pid y hy
  · obtain ⟨y, hy, rfl⟩ := key z hz; exact h.nice y hy
  · obtain ⟨y, hy, rfl⟩ := key z hz
    refine dk_le (h.load y hy) ?_
    split
    · exact Nat.le_refl _
    · exact Nat.zero_le _
  · show q ∈ L ↔ ∃ z, get (runP S.P p) q = some z ∧ z.on = true
    rw [hm, h.mem, get_run]
    cases get S.P q with
    | none => simp
    | some y => simp [onP]
  · have h1 := run_sum p S.P h.asc h.load
    have h2 := h.sum hd
    have h3 := h.len
    have e1 : pw 1073 = 2251799813685248 * pw 1022 := by rw [show (1073 : Nat) = 51 + 1022 from rfl, pw_add, show pw 51 = 2251799813685248 from rfl]
    have e2 : pw 1074 = 4503599627370496 * pw 1022 := by rw [show (1074 : Nat) = 52 + 1022 from rfl, pw_add, pw_52]
    have e3 : pw 1026 = 16 * pw 1022 := by rw [show (1026 : Nat) = 4 + 1022 from rfl, pw_add, show pw 4 = 16 from rfl]
    have e4 : pw 80 ≤ pw 1022 := pw_mono (by decide)
    have e5 : pw 80 = 1208925819614629174706176 := by decide
    show sumV (runP S.P p) ≤ _
    rw [e5] at e4
    rw [e2, e3] at h2 ⊢
    rw [e1] at h1
    generalize pw 1022 = X at *
    omega
theorem good_next (h : Good c S) {p : Int} (hp : p ∈ S.L) : Good c ⟨runP S.P p, off S.L p ++ [p]⟩ := by
  have hl := off_lt hp
  refine good_run h p (by have := h.llen; simp; omega) (nd_app (nd_off h.nd p) (by rw [mem_off]; simp)) fun q => ?_
  rw [List.mem_append, mem_off]
  by_cases e : q = p
  · simp [e, hp]
  · simp [e]
/-- Lists' numbers. -/
theorem lst_mem (h : Good c S) {k : Nat} {q : Int} : q ∈ lst S.P S.L k ↔ ∃ x, get S.P q = some x ∧ x.on = true ∧ lev x.nice = k := by
  rw [mem_lst, h.mem]
  constructor
  · rintro ⟨⟨x, hx, h1⟩, h2⟩
    refine ⟨x, hx, h1, ?_⟩
    unfold levP at h2
    rw [hx] at h2
    exact h2
  · rintro ⟨x, hx, h1, h2⟩
    refine ⟨⟨x, hx, h1⟩, ?_⟩
    unfold levP
    rw [hx]
    exact h2
theorem levP_some {P : List Pr} {p : Int} {x : Pr} (h : get P p = some x) : levP P p = lev x.nice := by unfold levP; rw [h]
theorem lst_len (S : Qs) (k : Nat) : (lst S.P S.L k).length ≤ S.L.length := List.length_filter_le _ _
end
/-- Lists behind each call. -/
theorem lsts_ins {c : Nat} {S : Qs} (h : Good c S) {p n : Int} (hg : get S.P p = none) (k : Nat) : lst (insP S.P ⟨p, n, true, 0⟩) (S.L ++ [p]) k = if lev n = k then lst S.P S.L k ++ [p] else lst S.P S.L k := by
  have hnl : p ∉ S.L := by
    rw [h.mem, hg]
    simp
  have h1 : levP (insP S.P ⟨p, n, true, 0⟩) p = lev n := by unfold levP; rw [get_ins h.asc (x := ⟨p, n, true, 0⟩) hg]; simp
  rw [lst_app, h1]
  have h2 : lst (insP S.P ⟨p, n, true, 0⟩) S.L k = lst S.P S.L k := lst_congr (fun q hq => levP_congr (by
    rw [get_ins h.asc (x := ⟨p, n, true, 0⟩) hg, if_neg (fun e => hnl (by simp only at e; rw [← e]; exact hq))])) k
  rw [h2]
theorem lsts_del {c : Nat} {S : Qs} (h : Good c S) {p : Int} {x : Pr} (hx : get S.P p = some x) (k : Nat) : lst (delP S.P (low S.P p)) (off S.L p) k = off (lst S.P S.L k) p := by
  rw [← lst_off]
  refine lst_congr (fun q hq => levP_congr ?_) k
  rw [get_del h.asc hx, if_neg (mem_off.1 hq).2]
theorem lsts_set {c : Nat} {S : Qs} (h : Good c S) {p : Int} {x y : Pr} (hx : get S.P p = some x) (hy : y.pid = p) (hn : y.nice = x.nice) (L : List Int) (k : Nat) : lst (S.P.set (low S.P p) y) L k = lst S.P L k := by
  refine lst_congr (fun q hq => levP_congr ?_) k
  rw [get_set h.asc hx hy]
  by_cases e : q = p
  · rw [if_pos e, e, hx]; simp [hn]
  · rw [if_neg e]
theorem lsts_run {S : Qs} (p : Int) (L : List Int) (k : Nat) : lst (runP S.P p) L k = lst S.P L k := by
  refine lst_congr (fun q hq => levP_congr ?_) k
  rw [get_run]
  cases get S.P q <;> rfl
theorem lsts_nice {c : Nat} {S : Qs} (h : Good c S) {p n : Int} {x : Pr} (hx : get S.P p = some x) (k : Nat) :
    lst (S.P.set (low S.P p) { x with nice := n }) (off S.L p) k = off (lst S.P S.L k) p := by
  rw [← lst_off]
  refine lst_congr (fun q hq => levP_congr ?_) k
  rw [get_set (y := { x with nice := n }) h.asc hx (get_some hx).2, if_neg (mem_off.1 hq).2]
theorem levP_set {c : Nat} {S : Qs} (h : Good c S) {p : Int} {x y : Pr} (hx : get S.P p = some x) (hy : y.pid = p) : levP (S.P.set (low S.P p) y) p = lev y.nice := by
  unfold levP
  rw [get_set h.asc hx hy, if_pos rfl]
/-- Who is not in a list. -/
theorem off_lst {c : Nat} {S : Qs} (h : Good c S) {p : Int} {x : Pr} (hx : get S.P p = some x) {k : Nat} (hk : x.on = false ∨ lev x.nice ≠ k) : off (lst S.P S.L k) p = lst S.P S.L k := by
  refine off_same fun hm => ?_
  obtain ⟨y, hy, h1, h2⟩ := (lst_mem h).1 hm
  rw [hx] at hy
  cases hy
  rcases hk with hk | hk
  · rw [hk] at h1; cases h1
  · exact hk h2
end SD
end Go.Proofs.Ytmikgkelmdgckaa
