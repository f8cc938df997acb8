/- Regions that draw their order and end in one operation that waits for all others (a store behind its phase): what the others read may be spoilt by that last one. Free of any program. -/
import Derived.Test.YthdohimjcjkneaaGreatDoorZL02
import Derived.Test.YthdohimjcjkneaaGreatDoorZL07
import Derived.Test.YthdohimjcjkneaaGreatDoorZL01
import Derived.Deep.RegionHeld3
import Derived.StillTail

/- Contracts of the document's own Right, Encode and Decode (package haywardref07): for every entry, word and level. -/
namespace Go.Proofs.YthdohimjcjkneaaGreatDoor
open Go.ChangeShapes Go.WideShapes Go.ChangeAt Go.RowKit
set_option linter.unusedVariables false
set_option linter.unusedSimpArgs false

set_option maxRecDepth 100000 in
set_option maxHeartbeats 1000000 in
theorem rRight_out (T H : Bool) (P : Int) (F : Nat) (L : Int) (h : ¬ (1 ≤ L ∧ L ≤ 4 ∧ F < 68719476736)) (w : World) :
    Calls Tryz.prog 114 #[.agg #[.bool T, .bool H, .int .i64 P, .int .u64 F], .int .i64 L] w fun e w' => e = .returned (.bool false) ∧ Below w.heap.size w w' := by
  by_cases c1 : 1 ≤ L
  · have d1 : decide (L < 1) = false := by simp; omega
    by_cases c4 : L ≤ 4
    · have d4 : decide (4 < L) = false := by simp; omega
      have dF : decide (68719476736 ≤ (F : Int)) = true := by simp; omega
      clear h c1 c4
      go_enter Tryz.func114, Tryz.ntmps114
      go_wp2
      go_ret
      exact ⟨rfl, (Below.refl _ _).alloc (Nat.le_refl _) _⟩
    · have d4 : decide (4 < L) = true := by simp; omega
      clear h c1 c4
      go_enter Tryz.func114, Tryz.ntmps114
      go_wp2
      go_ret
      exact ⟨rfl, (Below.refl _ _).alloc (Nat.le_refl _) _⟩
  · have d1 : decide (L < 1) = true := by simp; omega
    clear h c1
    go_enter Tryz.func114, Tryz.ntmps114
    go_wp2
    go_ret
    exact ⟨rfl, (Below.refl _ _).alloc (Nat.le_refl _) _⟩

set_option maxRecDepth 100000 in
set_option maxHeartbeats 1000000 in
theorem rRight_table (H b : Bool) (P : Int) (F : Nat) (L : Int) (h1 : 1 ≤ L) (h4 : L ≤ 4) (hF : F < 68719476736) (hb : b = true ↔ 2 ≤ L ∧ H = false ∧ P = 7) (w : World) :
    Calls Tryz.prog 114 #[.agg #[.bool true, .bool H, .int .i64 P, .int .u64 F], .int .i64 L] w fun e w' => e = .returned (.bool b) ∧ Below w.heap.size w w' := by
  have d1 : decide (L < 1) = false := by simp; omega
  have d4 : decide (4 < L) = false := by simp; omega
  have dF : decide (68719476736 ≤ (F : Int)) = false := by simp; omega
  clear h1 h4 hF
  by_cases c2 : 2 ≤ L
  · have d2 : decide (2 ≤ L) = true := by simp; omega
    cases H
    · have dP : (P == 7) = b := by rw [Bool.eq_iff_iff, hb, beq_iff_eq]; exact ⟨fun h => ⟨c2, rfl, h⟩, fun h => h.2.2⟩
      clear hb c2
      go_enter Tryz.func114, Tryz.ntmps114
      go_wp2
      go_ret
      exact ⟨rfl, (Below.refl _ _).alloc (Nat.le_refl _) _⟩
    · obtain rfl : b = false := by
        cases b
        · rfl
        · exact absurd (hb.1 rfl).2.1 (by decide)
      clear hb c2
      go_enter Tryz.func114, Tryz.ntmps114
      go_wp2
      go_ret
      exact ⟨rfl, (Below.refl _ _).alloc (Nat.le_refl _) _⟩
  · have d2 : decide (2 ≤ L) = false := by simp; omega
    obtain rfl : b = false := by
      cases b
      · rfl
      · exact absurd (hb.1 rfl).1 c2
    clear hb c2
    go_enter Tryz.func114, Tryz.ntmps114
    go_wp2
    go_ret
    exact ⟨rfl, (Below.refl _ _).alloc (Nat.le_refl _) _⟩

set_option maxRecDepth 100000 in
set_option maxHeartbeats 1000000 in
theorem rRight_bad (H : Bool) (P : Int) (F : Nat) (L : Int) (h1 : 1 ≤ L) (h4 : L ≤ 4) (hF : F < 68719476736) (hP : ¬ EN.perms P) (w : World) :
    Calls Tryz.prog 114 #[.agg #[.bool false, .bool H, .int .i64 P, .int .u64 F], .int .i64 L] w fun e w' => e = .returned (.bool false) ∧ Below w.heap.size w w' := by
  have d1 : decide (L < 1) = false := by simp; omega
  have d4 : decide (4 < L) = false := by simp; omega
  have dF : decide (68719476736 ≤ (F : Int)) = false := by simp; omega
  unfold EN.perms at hP
  have p1 : (P != 1) = true := by rw [bne_iff_ne]; omega
  have p3 : (P != 3) = true := by rw [bne_iff_ne]; omega
  have p5 : (P != 5) = true := by rw [bne_iff_ne]; omega
  have p7 : (P != 7) = true := by rw [bne_iff_ne]; omega
  clear h1 h4 hF hP
  go_enter Tryz.func114, Tryz.ntmps114
  go_wp2
  go_ret
  exact ⟨rfl, (Below.refl _ _).alloc (Nat.le_refl _) _⟩

set_option maxRecDepth 100000 in
set_option maxHeartbeats 1000000 in
theorem rRight_small (b : Bool) (P : Int) (F : Nat) (L : Int) (h1 : 1 ≤ L) (h4 : L ≤ 4) (hF : F < 68719476736) (hP : EN.perms P) (hb : b = true ↔ L = 1) (w : World) :
    Calls Tryz.prog 114 #[.agg #[.bool false, .bool false, .int .i64 P, .int .u64 F], .int .i64 L] w fun e w' => e = .returned (.bool b) ∧ Below w.heap.size w w' := by
  have d1 : decide (L < 1) = false := by simp; omega
  have d4 : decide (4 < L) = false := by simp; omega
  have dF : decide (68719476736 ≤ (F : Int)) = false := by simp; omega
  have dL : (L == 1) = b := by rw [Bool.eq_iff_iff, hb, beq_iff_eq]
  clear h1 h4 hF hb
  cases b <;> rcases hP with rfl | rfl | rfl | rfl
  all_goals
    go_enter Tryz.func114, Tryz.ntmps114
    go_wp2
    go_ret
    exact ⟨rfl, (Below.refl _ _).alloc (Nat.le_refl _) _⟩

set_option maxRecDepth 100000 in
set_option maxHeartbeats 2000000 in
theorem rRight_huge (b : Bool) (P : Int) (F : Nat) (L : Int) (h1 : 1 ≤ L) (h4 : L ≤ 4) (hF : F < 68719476736) (hP : EN.perms P) (hb : b = true ↔ L = 2 ∧ F % 512 = 0) (w : World) :
    Calls Tryz.prog 114 #[.agg #[.bool false, .bool true, .int .i64 P, .int .u64 F], .int .i64 L] w fun e w' => e = .returned (.bool b) ∧ Below w.heap.size w w' := by
  have d1 : decide (L < 1) = false := by simp; omega
  have d4 : decide (4 < L) = false := by simp; omega
  have dF : decide (68719476736 ≤ (F : Int)) = false := by simp; omega
  clear h1 h4 hF
  by_cases c2 : L = 2
  · have dL : (L == 2) = true := by rw [beq_iff_eq]; exact c2
    have dM : ((F : Int) % 512 == 0) = b := by rw [Bool.eq_iff_iff, hb, beq_iff_eq]; omega
    clear c2 hb
    cases b <;> rcases hP with rfl | rfl | rfl | rfl
    all_goals
      go_enter Tryz.func114, Tryz.ntmps114
      go_wp2
      go_ret
      exact ⟨rfl, (Below.refl _ _).alloc (Nat.le_refl _) _⟩
  · have dL : (L == 2) = false := by rw [beq_eq_false_iff_ne]; exact c2
    obtain rfl : b = false := by
      cases b
      · rfl
      · exact absurd (hb.1 rfl).1 c2
    clear c2 hb
    rcases hP with rfl | rfl | rfl | rfl
    all_goals
      go_enter Tryz.func114, Tryz.ntmps114
      go_wp2
      go_ret
      exact ⟨rfl, (Below.refl _ _).alloc (Nat.le_refl _) _⟩

theorem rRight_any (T H b : Bool) (P : Int) (F : Nat) (L : Int) (hb : b = true ↔ EN.right T H P F L) (w : World) :
    Calls Tryz.prog 114 #[.agg #[.bool T, .bool H, .int .i64 P, .int .u64 F], .int .i64 L] w fun e w' => e = .returned (.bool b) ∧ Below w.heap.size w w' := by
  unfold EN.right at hb
  by_cases c : 1 ≤ L ∧ L ≤ 4 ∧ F < 68719476736
  · obtain ⟨h1, h4, hF⟩ := c
    cases T
    · by_cases hP : EN.perms P
      · cases H
        · exact rRight_small b P F L h1 h4 hF hP (hb.trans ⟨fun h => by rcases h.2.2.2 with ⟨e, -⟩ | ⟨-, -, e⟩; exact absurd e (by decide); rcases e with ⟨-, e⟩ | ⟨e, -⟩; exact e; exact absurd e (by decide), fun h => ⟨h1, h4, hF, .inr ⟨rfl, hP, .inl ⟨rfl, h⟩⟩⟩⟩) w
        · exact rRight_huge b P F L h1 h4 hF hP (hb.trans ⟨fun h => by rcases h.2.2.2 with ⟨e, -⟩ | ⟨-, -, e⟩; exact absurd e (by decide); rcases e with ⟨e, -⟩ | ⟨-, e⟩; exact absurd e (by decide); exact e, fun h => ⟨h1, h4, hF, .inr ⟨rfl, hP, .inr ⟨rfl, h⟩⟩⟩⟩) w
      · obtain rfl : b = false := by
          cases b
          · rfl
          · rcases (hb.1 rfl).2.2.2 with ⟨e, -⟩ | ⟨-, e, -⟩
            · exact absurd e (by decide)
            · exact absurd e hP
        exact rRight_bad H P F L h1 h4 hF hP w
    · exact rRight_table H b P F L h1 h4 hF (hb.trans ⟨fun h => by rcases h.2.2.2 with ⟨-, e⟩ | ⟨e, -⟩; exact e; exact absurd e (by decide), fun h => ⟨h1, h4, hF, .inl ⟨rfl, h⟩⟩⟩) w
  · obtain rfl : b = false := by
      cases b
      · rfl
      · exact absurd ⟨(hb.1 rfl).1, (hb.1 rfl).2.1, (hb.1 rfl).2.2.1⟩ c
    exact rRight_out T H P F L c w

end Go.Proofs.YthdohimjcjkneaaGreatDoor

/- The document's own tree: Map, its arguments none; words for the rest. -/
namespace Go.Proofs.YthdohimjcjkneaaGreatDoor
open Go.ChangeShapes Go.WideShapes Go.ChangeAt Go.RowKit
set_option linter.unusedVariables false
set_option linter.unusedSimpArgs false

theorem lv_psz (h : Bool) : RX.psz h = EN.sz (lv h - 1) := by cases h <;> rfl
theorem lv_dec (h : Bool) : decide (lv h = 2) = h := by cases h <;> rfl

/-- A row cut at its beginning, nil or not. -/
theorem cut_lo {P : Program} {t e : TypeId} {z : Value} {size bytes : Nat} (ht : P.underlying t = some (.slice e)) (hel : P.elem t = e) (hinf : Own.Info P e z size bytes) {w : World} {base n : Nat} {v : Value} {xs : List Value} (h : w.ownsRow base e size v n xs) {a : Option Addr} {cap : Nat} (hv : v = .slice a n cap) (hc : n ≤ cap) (k : Nat) (hk : k ≤ n) :
    ∃ a', (∀ W : World, (Instr.slice t (.slice a n cap) (some (.int .i64 (k : Int))) none none).run P W = .ok (.slice a' (n - k) (cap - k)) W) ∧ Own.Src w size (.slice a' (n - k) (cap - k)) (n - k) (xs.drop (k * size)) ∧ ∀ ad, a' = some ad → v.ownBlock = some ad.block := by
  rcases h.2 with ⟨h1, h0⟩ | ⟨g, cap', cur, h1, hb, hg, hnc, hcm, hcs, htake⟩
  · subst h0
    obtain rfl : k = 0 := by omega
    rw [hv] at h1
    simp only [Value.slice.injEq] at h1
    obtain ⟨rfl, -, rfl⟩ := h1
    obtain ⟨i, hi, hz, hsize, hby, hzs, hsz⟩ := hinf
    refine ⟨none, fun W => ?_, .inl ⟨rfl, rfl, ?_⟩, fun ad e => by cases e⟩
    · have hs : (sizeOf (P.elem t)).run P W = .ok size W := by rw [hel]; simp [sizeOf, typeInfo, hi, hsize]
      have hr := run_slice_l (P := P) W t none 0 0 (by rw [hel]; exact ht) .i64 ((0 : Nat) : Int) (by omega) (by omega)
      rw [hs] at hr
      simpa [Result.andThen, sliced] using hr
    · have := h.1
      rw [Nat.zero_mul] at this
      rw [List.eq_nil_of_length_eq_zero this, List.drop_nil]
  · have h2 := hv.symm.trans h1
    simp only [Value.slice.injEq, true_and] at h2
    obtain ⟨rfl, rfl⟩ := h2
    obtain ⟨ad, hr, hb1, hb2⟩ := run_lo ht hel hinf g 0 n cap k (k : Int) rfl hk hc
    rw [hv] at h
    exact ⟨some ad, hr, src_drop h k hk ad _ hb2, fun ad' e => by cases e; rw [h1, hb1]; rfl⟩
/-- A table more. -/
theorem DM.addT {W Wa w3 : World} {D : List Nat} {g pg pb n : Nat} {T : Nat → Bool} {lv tv tv' : Value} {L : List RX.Pg} {Tl : List RX.Tb} {x : RX.Tb} (h : DM W D g pg pb n T lv tv L Tl) (hb : Below W.heap.size W Wa) (ho : w3.ownsRow 0 53 3 tv' (Tl.length + 1) (tcl (Tl ++ [x]))) (hg : Wa.grownBy w3 tv.ownBlock)
    (hob : tv'.ownBlock = tv.ownBlock ∨ tv'.ownBlock = some Wa.heap.size) (hx : x.1 < 65536 ∧ 1 ≤ x.2.1 ∧ x.2.1 ≤ 4 ∧ x.2.2 < 281474976710656) :
    ∃ D', DM (w3.setCell ⟨g, 2, none⟩ tv') D' g pg pb n T lv tv' L (Tl ++ [x]) ∧ Mv D D' W (w3.setCell ⟨g, 2, none⟩ tv') := by
  have hgl := h.box.lt
  have hpl := h.rl.box.lt
  have hbl := h.rl.row.lt
  have hbut : But tv.ownBlock.toList W w3 := ⟨hg.os.trans hb.os, hg.tape.trans hb.tape, hg.output.trans hb.output, Nat.le_trans hb.size hg.size, fun k hk hS => (hg.block k (Nat.lt_of_lt_of_le hk hb.size) (fun e => hS (by rw [← e]; simp))).trans (hb.block k hk)⟩
  have hin : ∀ y, y ∈ tv.ownBlock.toList → tv.ownBlock = some y := fun y hy => by simpa using hy
  have hown : ∀ y, tv'.ownBlock = some y → (tv.ownBlock = some y ∨ W.heap.size ≤ y) := fun y hy => by
    rcases hob with e | e
    · rw [e] at hy; exact .inl hy
    · rw [e] at hy; have := Option.some.inj hy; have := hb.size; exact .inr (by omega)
  have hset : But [g] w3 (w3.setCell ⟨g, 2, none⟩ tv') := (But.refl _ _).set (.inl (by simp)) _
  have kbox : Blk w3 g 47 [.pointer (some ⟨pg, 0, none⟩), lv, tv] := h.box.but hbut (fun hm => (h.td g (hin _ hm)).2.1 rfl)
  have krl : RL w3 pg pb n T := h.rl.but hbut (fun hm => (h.td pg (hin _ hm)).2.2.1 rfl) (fun hm => (h.td pb (hin _ hm)).2.2.2 rfl)
  have klo := own_but h.lo hbut (fun y hy hm => (h.ld y hy).2.2.2.2 (hin _ hm))
  refine ⟨tv'.ownBlock.toList ++ D, ⟨kbox.set 2 tv', own_but klo hset (fun y hy => by have := (h.ld y hy).2.1; simpa using this), ?_, krl.but hset (by have := h.gp; simp; omega) (by have := h.gb; simp; omega), by simp [h.dg], by simp [h.dp], by simp [h.db], h.gp, h.gb, fun y hy => ?_, fun y hy => ?_, h.llt, fun y hy => ?_⟩, ⟨?_, ?_⟩⟩
  · rw [List.length_append]
    refine own_but ho hset (fun y hy => ?_)
    simp only [List.mem_singleton]
    rcases hown y hy with e | e
    · exact (h.td y e).2.1
    · omega
  · obtain ⟨a1, a2, a3, a4, a5⟩ := h.ld y hy
    refine ⟨by simp [a1], a2, a3, a4, fun e => ?_⟩
    rcases hown y e with e2 | e2
    · exact a5 e2
    · have := own_lt h.lo y hy; omega
  · refine ⟨by rw [hy]; simp, ?_⟩
    rcases hown y hy with e | e
    · exact (h.td y e).2
    · exact ⟨by omega, by omega, by omega⟩
  · rcases List.mem_append.1 hy with hy | hy
    · exact h.tlt y hy
    · simp only [List.mem_singleton] at hy
      subst hy; exact hx
  · exact (But.mono hbut (fun y hy => (h.td y (hin _ hy)).1)).set (.inl h.dg) _
  · intro y hy
    rw [List.mem_append] at hy
    rcases hy with hy | hy
    · rw [Option.mem_toList] at hy
      rcases hown y hy with e | e
      · exact .inl (h.td y e).1
      · exact .inr e
    · exact .inl hy

set_option maxRecDepth 100000 in
set_option maxHeartbeats 4000000 in
theorem rMap_arg (g va f : Nat) (h : Bool) (p : Int) (w : World) (hva : va < 18446744073709551616) (hno : ¬ (EN.right false h p f (lv h : Nat) ∧ va % EN.sz (lv h - 1) = 0 ∧ va < 140737488355328)) :
    Calls Tryz.prog 57 #[.pointer (some ⟨g, 0, none⟩), .agg #[.int .u64 (va : Int), .int .u64 (f : Int), .int .i64 p, .bool h]] w fun e w' => e = .returned (.int .i64 2) ∧ Below w.heap.size w w' := by
  obtain ⟨ok, hok⟩ : ∃ ok : Bool, ok = true ↔ EN.right false h p f (lv h : Nat) := by
    by_cases hh : EN.right false h p f (lv h : Nat)
    · exact ⟨true, by simp [hh]⟩
    · exact ⟨false, by simp [hh]⟩
  have hR := W_hid (fun w => rRight_any false h ok p f (lv h : Nat) hok w)
  have hS := W_hid rSize_any
  obtain ⟨sz, hsz⟩ : ∃ sz, sz = RX.psz h := ⟨_, rfl⟩
  have hsz2 : EN.sz (lv h - 1) = sz := by rw [hsz, lv_psz]
  have hszp : 0 < sz := by rw [← hsz2]; exact EN.sz_pos _
  have hS2 := W_hid (fun w => hS.out (va : Int) (f : Int) p h w)
  rw [← hsz] at hS2
  obtain ⟨m, hm⟩ : ∃ m, va % sz = m := ⟨_, rfl⟩
  have hmod : (va : Int).tmod (sz : Int) = (m : Int) := by rw [← hm]; rfl
  rw [hsz2, hm] at hno
  have hb0 := W_hid (Blk.new w 38 [.int .u64 (va : Int), .int .u64 (f : Int), .int .i64 p, .bool h] rfl)
  have bel0 := W_hid ((Below.refl w.heap.size w).alloc (Nat.le_refl _) (.cells #[.int .u64 (va : Int), .int .u64 (f : Int), .int .i64 p, .bool h] 38))
  have hts : ok = false ∨ (ok = true ∧ decide ((140737488355328 : Int) ≤ (va : Int)) = true) ∨ (ok = true ∧ decide ((140737488355328 : Int) ≤ (va : Int)) = false ∧ ((m : Int) != 0) = true) := by
    cases ok with
    | false => exact .inl rfl
    | true =>
      by_cases h1 : va < 140737488355328
      · refine .inr (.inr ⟨rfl, by simp; omega, ?_⟩)
        have : m ≠ 0 := fun e => hno ⟨hok.1 rfl, e, h1⟩
        simp; omega
      · exact .inr (.inl ⟨rfl, by simp; omega⟩)
  clear hno hok hsz hsz2 hS hm
  have hzz : ((sz : Int) == 0) = false := by simp; omega
  have hzn : ¬ sz = 0 := by omega
  have hzi : ¬ (sz : Int) = 0 := by omega
  cases h with
  | true =>
    have hR2 : Hid (∀ w, Calls Tryz.prog 114 #[.agg #[.bool false, .bool true, .int .i64 p, .int .u64 (f : Int)], .int .i64 2] w fun e w' => e = .returned (.bool ok) ∧ Below w.heap.size w w') := hR
    clear hR
    go_enter Tryz.func57, Tryz.ntmps57
    go_wp2_with fail
    refine (hR2.out _).mono ?_
    rintro e w1 ⟨rfl, bel1⟩
    have hb1 := hb0.out.keep bel1
    have k0 := hb1.cell (j := 0) rfl
    have k1 := hb1.cell (j := 1) rfl
    have k2 := hb1.cell (j := 2) rfl
    have k3 := hb1.cell (j := 3) rfl
    have bel2 := W_hid (bel0.out.trans (bel1.mono (by simp)))
    clear bel1 hb1 hR2
    rcases hts with rfl | ⟨rfl, d2⟩ | ⟨rfl, d2, d3⟩
    · go_wp2_with fail
      go_quiet (fail)
      go_wp2
      go_ret
      exact ⟨rfl, below_drewN bel2.out _⟩
    · go_wp2_with fail
      go_quiet (fail)
      go_wp2
      go_ret
      exact ⟨rfl, below_drewN bel2.out _⟩
    · go_wp2_with fail
      go_region_held3 (fun w' => w'.cell? ⟨w.heap.size, 0, none⟩ = some (.int .u64 (va : Int)) ∧ w'.cell? ⟨w.heap.size, 1, none⟩ = some (.int .u64 (f : Int)) ∧ w'.cell? ⟨w.heap.size, 2, none⟩ = some (.int .i64 p) ∧ w'.cell? ⟨w.heap.size, 3, none⟩ = some (.bool true)) (first | assumption | go_keep)
        (first | (go_at_call 30; refine (hS2.out _).mono ?_; rintro e w2 ⟨rfl, bel3⟩; have x0 := cell_keep bel3 rfl k0; have x1 := cell_keep bel3 rfl k1; have x2 := cell_keep bel3 rfl k2; have x3 := cell_keep bel3 rfl k3; have bl := W_hid (bel_step bel2.out bel3); clear bel3))
      go_wp2_with fail
      go_ret
      exact ⟨rfl, bl.out⟩
  | false =>
    have hR2 : Hid (∀ w, Calls Tryz.prog 114 #[.agg #[.bool false, .bool false, .int .i64 p, .int .u64 (f : Int)], .int .i64 1] w fun e w' => e = .returned (.bool ok) ∧ Below w.heap.size w w') := hR
    clear hR
    go_enter Tryz.func57, Tryz.ntmps57
    go_wp2_with fail
    refine (hR2.out _).mono ?_
    rintro e w1 ⟨rfl, bel1⟩
    have hb1 := hb0.out.keep bel1
    have k0 := hb1.cell (j := 0) rfl
    have k1 := hb1.cell (j := 1) rfl
    have k2 := hb1.cell (j := 2) rfl
    have k3 := hb1.cell (j := 3) rfl
    have bel2 := W_hid (bel0.out.trans (bel1.mono (by simp)))
    clear bel1 hb1 hR2
    rcases hts with rfl | ⟨rfl, d2⟩ | ⟨rfl, d2, d3⟩
    · go_wp2_with fail
      go_quiet (fail)
      go_wp2
      go_ret
      exact ⟨rfl, below_drewN bel2.out _⟩
    · go_wp2_with fail
      go_quiet (fail)
      go_wp2
      go_ret
      exact ⟨rfl, below_drewN bel2.out _⟩
    · go_wp2_with fail
      go_region_held3 (fun w' => w'.cell? ⟨w.heap.size, 0, none⟩ = some (.int .u64 (va : Int)) ∧ w'.cell? ⟨w.heap.size, 1, none⟩ = some (.int .u64 (f : Int)) ∧ w'.cell? ⟨w.heap.size, 2, none⟩ = some (.int .i64 p) ∧ w'.cell? ⟨w.heap.size, 3, none⟩ = some (.bool false)) (first | assumption | go_keep)
        (first | (go_at_call 30; refine (hS2.out _).mono ?_; rintro e w2 ⟨rfl, bel3⟩; have x0 := cell_keep bel3 rfl k0; have x1 := cell_keep bel3 rfl k1; have x2 := cell_keep bel3 rfl k2; have x3 := cell_keep bel3 rfl k3; have bl := W_hid (bel_step bel2.out bel3); clear bel3))
      go_wp2_with fail
      go_ret
      exact ⟨rfl, bl.out⟩
end Go.Proofs.YthdohimjcjkneaaGreatDoor

namespace Go.Proofs.YthdohimjcjkneaaGreatDoor
open Go.ChangeShapes Go.WideShapes Go.ChangeAt Go.RowKit
set_option linter.unusedVariables false

section
variable {P : Program} {ops : Array Oper} {Q : Exit → Act → World → Prop} {md : Region.Mode} {S : World → Prop} {m : Nat}

/-- Whatever order is picked: S holds behind each operation but number m. -/
def UpTo (P : Program) (md : Region.Mode) (ops : Array Oper) (Q : Exit → Act → World → Prop) (S : World → Prop) (m : Nat) : Nat → Array Bool → Act → World → Prop
  | 0, ls, a, w => Region.ready md ops ls = [] ∧ Q .normal a w
  | k + 1, ls, a, w => (Region.ready md ops ls = [] → Q .normal a w) ∧ ∀ j ∈ Region.ready md ops ls, wpOp P ops Q j (fun a' w' => (j ≠ m → S w') ∧ UpTo P md ops Q S m k (ls.setIfInBounds j true) a' w') a w
theorem UpTo.any : ∀ (k : Nat) (ls : Array Bool) (a : Act) (w : World), UpTo P md ops Q S m k ls a w → wpAny P md ops Q k ls a w
  | 0, _, _, _, h => h
  | k + 1, _, _, _, h => ⟨h.1, fun j hj => wpOp_mono (fun a' w' h' => UpTo.any k _ a' w' h'.2) (h.2 j hj)⟩

/-- An operation for which m waits may be taken first. -/
theorem UpTo.first {i : Nat} {o : Oper} {v : Value} (hi : ops[i]? = some o) (hwait : Region.waitsFor md ops m i = true) (hne : i ≠ m) (hsel : ∀ (j : Nat) (o : Oper) cs b, ops[j]? = some o → o.op ≠ .select cs b)
    (hQ : ∀ c a w, Q (.panic c) (a.put o.dst v) w → Q (.panic c) a w) :
    ∀ (k : Nat) (ls : Array Bool) (a : Act) (w : World),
      (∀ j oj, ops[j]? = some oj → j ≠ i → ls.getD j true = false → (∀ e ∈ oj.after, Region.binds md e = true → e.on ≠ i) → o.apart ops oj = true) →
      i ∈ Region.ready md ops ls → YieldsIf P ops S o v a → S w →
      UpTo P md ops Q S m k (ls.setIfInBounds i true) (a.put o.dst v) w → UpTo P md ops Q S m (k + 1) ls a w := by
  have unl : ∀ {ls : Array Bool}, i ∈ Region.ready md ops ls → ls.getD i false = false := fun {ls} h => by
    have h0 := (mem_ready.1 h).1
    by_cases hlt : i < ls.size
    · simp [hlt] at h0 ⊢; exact h0
    · simp [Array.getElem?_eq_none (Nat.le_of_not_lt hlt)]
  intro k
  induction k with
  | zero =>
    intro ls a w _ hr hy hS H
    refine ⟨fun e => (by rw [e] at hr; cases hr), fun j hj => ?_⟩
    by_cases hji : j = i
    · subst hji; exact hy.wpOp hi hS ⟨fun _ => hS, H⟩
    · have h1 := ready_mono hj hji
      rw [H.1] at h1; cases h1
  | succ k ih =>
    intro ls a w hfr hr hy hS H
    refine ⟨fun e => (by rw [e] at hr; cases hr), fun j hj => ?_⟩
    by_cases hji : j = i
    · subst hji; exact hy.wpOp hi hS ⟨fun _ => hS, H⟩
    obtain ⟨hju, oj, hoj, hall⟩ := mem_ready.1 hj
    have hapart : ∀ e ∈ oj.after, Region.binds md e = true → e.on ≠ i := fun e he hb e2 => by
      have h1 := hall e he hb
      rw [e2, unl hr] at h1; cases h1
    have hjm : j ≠ m := by
      rintro rfl
      obtain ⟨o2, ho2, e, he, hb, hon⟩ := Region.waitsFor_spec hwait
      obtain rfl : o2 = oj := Option.some.inj (ho2.symm.trans hoj)
      exact hapart e he hb hon
    have h2 := wpOp_putIf hoj (hfr j oj hoj hji hju hapart) (fun cs b => hsel i o cs b hi) (fun cs b => hsel j oj cs b hoj) hQ hy (H.2 j (ready_mono hj hji))
    refine wpOp_mono (fun a' w' h3 => ⟨h3.2.1, ih (ls.setIfInBounds j true) a' w' (fun x ox hx hxi hun hno => hfr x ox hx hxi ?_ hno) (ready_mono hr (Ne.symm hji)) h3.1 (h3.2.1 hjm) ?_⟩) h2
    · by_cases e : j = x
      · subst e; exact hju
      · rw [getD_set_ne true e] at hun; exact hun
    · rw [Array.setIfInBounds_comm _ _ hji]
      exact h3.2.2
theorem UpTo.take {i : Nat} {o : Oper} {v : Value} {k : Nat} {ls : Array Bool} {a : Act} {w : World} (hi : ops[i]? = some o) (hwait : (Region.waitsFor md ops m i && decide (i ≠ m)) = true)
    (hs : Region.noSelect ops = true) (hf : Region.free md ops ls i = true) (hr : (Region.ready md ops ls).contains i = true)
    (hQ : ∀ c a w, Q (.panic c) (a.put o.dst v) w → Q (.panic c) a w) (hy : YieldsIf P ops S o v a) (hS : S w)
    (h : UpTo P md ops Q S m k (ls.setIfInBounds i true) (a.put o.dst v) w) : UpTo P md ops Q S m (k + 1) ls a w := by
  rw [Bool.and_eq_true, decide_eq_true_eq] at hwait
  exact UpTo.first hi hwait.1 hwait.2 (Region.noSelect_spec hs) hQ k ls a w (Region.free_spec hi hf) (by simpa using hr) hy hS h
/-- One operation alone may come up. -/
theorem UpTo.one {i : Nat} {o : Oper} {k : Nat} {ls : Array Bool} {a : Act} {w : World} (hr : Region.ready md ops ls = [i]) (ho : ops[i]? = some o) (hsel : o.guard = none)
    (h : ∀ K' : Act → World → Prop, Hid (∀ a' w', S w' → UpTo P md ops Q S m k (ls.setIfInBounds i true) a' w' → K' a' w') → if Region.wanted o (yielded ops a.tmps) = true then Oper.wp P o a w K' Q else K' (a.put o.dst undef) w) : UpTo P md ops Q S m (k + 1) ls a w := by
  refine ⟨fun e => (by rw [hr] at e; cases e), fun j hj => ?_⟩
  rw [hr] at hj
  obtain rfl : j = i := by simpa using hj
  have hw : Region.wanted o (yielded ops a.tmps) = true := by simp [Region.wanted, hsel]
  have h1 := h (fun a' w' => (j ≠ m → S w') ∧ UpTo P md ops Q S m k (ls.setIfInBounds j true) a' w') (W_hid (fun a' w' hS hU => ⟨fun _ => hS, hU⟩))
  rw [if_pos hw] at h1
  unfold wpOp
  simp only [ho, hw, if_true]
  exact .inl h1
/-- The last one. -/
theorem UpTo.last {o : Oper} {k : Nat} {ls : Array Bool} {a : Act} {w : World} (hr : Region.ready md ops ls = [m]) (ho : ops[m]? = some o) (hsel : o.guard = none) (hend : Region.ready md ops (ls.setIfInBounds m true) = [])
    (h : Oper.wp P o a w (Q .normal) Q) : UpTo P md ops Q S m (k + 1) ls a w := by
  refine ⟨fun e => (by rw [hr] at e; cases e), fun j hj => ?_⟩
  rw [hr] at hj
  obtain rfl : j = m := by simpa using hj
  have hw : Region.wanted o (yielded ops a.tmps) = true := by simp [Region.wanted, hsel]
  have key : ∀ a' w', Q .normal a' w' → (j ≠ j → S w') ∧ UpTo P md ops Q S j k (ls.setIfInBounds j true) a' w' := fun a' w' hq => ⟨fun e => absurd rfl e, by
    cases k with
    | zero => exact ⟨hend, hq⟩
    | succ k => exact ⟨fun _ => hq, fun x hx => by rw [hend] at hx; cases hx⟩⟩
  refine wpOp_mono key ?_
  unfold wpOp
  simp only [ho, hw, if_true]
  exact .inl h
theorem UpTo.region {id : Nat} {a : Act} {w : World} (hm : P.follows .mixedOrders = true) (hS : S w.drew) (h : S w.drew → UpTo P .any ops Q S m ops.size (Array.replicate ops.size false) a w.drew) : (Code.region id ops true).wp P Q a w :=
  wp_region_any hm (UpTo.any _ _ _ _ (h hS))
end
end Go.Proofs.YthdohimjcjkneaaGreatDoor
