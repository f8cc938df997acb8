/- The laws of layer 8, continued: what RadixLeads wants beside its walk: what walked and Walk say of an address, the cells of a row of pages. -/
import Derived.Test.YtigbjhmodpplbaaGreatDoorZK03
import Derived.Deep.CutBlock
import Derived.Test.YtigbjhmodpplbaaGreatDoorZH04
import Derived.Test.YtigbjhmodpplbaaGreatDoorZH01
import Derived.ProofKit
import Derived.LaidMore
import Derived.OpenShut
import Derived.Stop.Joined
import Derived.MakeChecks
import Derived.Test.YtigbjhmodpplbaaGreatDoorTie
import Derived.Test.YtigbjhmodpplbaaGreatDoorCards
import Derived.SevenTiedAt
import Derived.ShutString
import Derived.ChangeOld
import Derived.Deep.Slices

/- The document's own tree: Map. -/
namespace Go.Proofs.YtigbjhmodpplbaaGreatDoor
open Go.ChangeShapes Go.WideShapes Go.ChangeAt Go.RowKit
set_option linter.unusedVariables false
set_option linter.unusedSimpArgs false

/-- Does a page lie across the addresses from va on, so many? -/
def ovl (va S : Nat) (x : RX.Pg) : Prop := x.1 < va + S ∧ va < x.1 + RX.psz x.2.2.2
/-- How Map goes on where no page is in the way. -/
def MapD (F : RX.Tabs) (G : RX.Pags) (T : Nat → Bool) (n va l f : Nat) (p c : Int) (F' : RX.Tabs) (G' : RX.Pags) (T' : Nat → Bool) : Prop :=
  ∃ (Lv : Nat) (fr : Nat → Nat) (fs : List Nat), RX.Desc F va l Lv fr ∧ Takes T n fs ∧ G l (va / EN.sz (l - 1)) = none ∧
    ((c = 24 ∧ fs.length < Lv - l ∧ FR.NoLow (takeAll T fs) n 1 ∧ F' = F ∧ G' = G ∧ T' = T) ∨ (c = 0 ∧ fs.length = Lv - l ∧ F' = RX.addT F va Lv fs ∧ G' = RX.updG G l (va / EN.sz (l - 1)) (some (f, p)) ∧ T' = takeAll T fs))
theorem mapD_of {F F' : RX.Tabs} {G G' : RX.Pags} {T T' : Nat → Bool} {r n va l f : Nat} {p c : Int} {L : List RX.Pg} (I : RX.Inv F G r n) (hL : RX.PB L G) (hU : RX.Used F G) (h1 : 1 ≤ l) (h2 : l ≤ 2) (hva : va % EN.sz (l - 1) = 0) (h : MapR F G T n va l f p c F' G' T') :
    ((∃ x ∈ L, ovl va (EN.sz (l - 1)) x) → c = 102 ∧ F' = F ∧ G' = G ∧ T' = T) ∧ (¬ (∃ x ∈ L, ovl va (EN.sz (l - 1)) x) → MapD F G T n va l f p c F' G' T') := by
  have hG : ¬ (∃ x ∈ L, ovl va (EN.sz (l - 1)) x) → G l (va / EN.sz (l - 1)) = none := fun hno => by
    cases hc : G l (va / EN.sz (l - 1)) with
    | none => rfl
    | some y =>
      obtain ⟨f, p⟩ := y
      refine absurd ⟨_, (hL.mem _).2 ⟨l, h1, h2, RX.is_at hc⟩, ?_⟩ hno
      have e := RX.sub_mod va (EN.sz (l - 1))
      have := EN.sz_pos (l - 1)
      unfold ovl
      show va / EN.sz (l - 1) * EN.sz (l - 1) < _ ∧ va < va / EN.sz (l - 1) * EN.sz (l - 1) + RX.psz (decide (l = 2))
      rw [RX.psz_lv l ⟨h1, h2⟩]
      omega
  cases h with
  | busy Lv fr hd hp => exact ⟨fun _ => ⟨rfl, rfl, rfl, rfl⟩, fun hno => absurd ((RX.busy_iff I hL hU h1 h2 hd hva).2 hp) hno⟩
  | full Lv fr hd hp fs hl ht hn =>
    refine ⟨fun hy => ?_, fun hno => ⟨Lv, fr, fs, hd, ht, hG hno, .inl ⟨rfl, hl, hn, rfl, rfl, rfl⟩⟩⟩
    rw [(RX.busy_iff I hL hU h1 h2 hd hva).1 hy] at hp; cases hp
  | done Lv fr hd hp fs hl ht =>
    refine ⟨fun hy => ?_, fun hno => ⟨Lv, fr, fs, hd, ht, hG hno, .inr ⟨rfl, hl, rfl, rfl, rfl⟩⟩⟩
    rw [(RX.busy_iff I hL hU h1 h2 hd hva).1 hy] at hp; cases hp

/-- The tables that were laid first. -/
def nw (va Lv : Nat) (fs : List Nat) (j : Nat) : List RX.Tb := (List.range j).map fun i => (fs.getD i 0, Lv - 1 - i, va / EN.sz (Lv - 1 - i) * EN.sz (Lv - 1 - i))
theorem nw_succ (va Lv : Nat) (fs : List Nat) (j : Nat) : nw va Lv fs (j + 1) = nw va Lv fs j ++ [(fs.getD j 0, Lv - 1 - j, va / EN.sz (Lv - 1 - j) * EN.sz (Lv - 1 - j))] := by
  unfold nw; rw [List.range_succ, List.map_append]; rfl
theorem nw_len (va Lv : Nat) (fs : List Nat) (j : Nat) : (nw va Lv fs j).length = j := by simp [nw]
theorem take_succ_getD (fs : List Nat) (j : Nat) (h : j < fs.length) : fs.take (j + 1) = fs.take j ++ [fs.getD j 0] := by
  rw [List.take_succ_eq_append_getElem h, List.getD, List.getElem?_eq_getElem h]; rfl
/-- A frame that was taken last is given back. -/
theorem take_undo {T : Nat → Bool} {n : Nat} {fs : List Nat} (h : Takes T n fs) (j : Nat) (hj : j < fs.length) : FR.st (takeAll T (fs.take (j + 1))) (fs.getD j 0) 1 false = takeAll T (fs.take j) ∧ takeAll T (fs.take (j + 1)) (fs.getD j 0) = true ∧ fs.getD j 0 < n := by
  have e : fs.getD j 0 = fs[j] := by rw [List.getD, List.getElem?_eq_getElem hj]; rfl
  have hlow := low_one (h j hj)
  have hm : ∀ x, x ∈ fs.take (j + 1) ↔ x ∈ fs.take j ∨ x = fs[j] := fun x => by rw [take_succ_getD fs j hj, e, List.mem_append, List.mem_singleton]
  rw [e]
  refine ⟨?_, by unfold takeAll; rw [if_pos ((hm _).2 (.inr rfl))], hlow.1⟩
  funext x
  unfold FR.st
  by_cases hx : x = fs[j]
  · subst hx
    rw [if_pos (by omega), hlow.2]
  · rw [if_neg (by omega)]
    unfold takeAll
    by_cases hx2 : x ∈ fs.take j
    · rw [if_pos hx2, if_pos ((hm x).2 (.inl hx2))]
    · rw [if_neg hx2, if_neg (fun h => ((hm x).1 h).elim hx2 hx)]

set_option maxRecDepth 100000 in
set_option maxHeartbeats 1600000 in
theorem rMap_yes (D : List Nat) (g pg pb n r : Nat) (T T' : Nat → Bool) (lv0 tv : Value) (L : List RX.Pg) (Tl : List RX.Tb) (F F' : RX.Tabs) (G G' : RX.Pags) (w : World) (hDM : DM w D g pg pb n T lv0 tv L Tl) (I : RX.Inv F G r n) (hP : RX.PB L G) (hB : RX.TB Tl F r) (hG : RX.Good F G T n) (va f : Nat) (h : Bool) (p c : Int) (hva : va < 140737488355328)
    (hr : EN.right false h p f (lv h : Nat)) (hsz : va % EN.sz (lv h - 1) = 0) (hR : MapR F G T n va (lv h) f p c F' G' T') (hTl : Tl.length ≤ 90000) (hLl : L.length ≤ 90000) (hD : ∀ x ∈ D, x < w.heap.size) :
    Calls Tryz.prog 51 #[.pointer (some ⟨g, 0, none⟩), .agg #[.int .u64 (va : Int), .int .u64 (f : Int), .int .i64 p, .bool h]] w fun e w' => e = .returned (.int .i64 c) ∧
      ∃ D' lv' tv' L' Tl', DM w' D' g pg pb n T' lv' tv' L' Tl' ∧ RX.PB L' G' ∧ RX.TB Tl' F' r ∧ L'.length ≤ L.length + 1 ∧ Tl'.length ≤ Tl.length + 3 ∧ Mv D D' w w' := by
  have hlv := lv_le h
  obtain ⟨hov, hno⟩ := mapD_of I hP hG.used (by omega) (by omega) hsz hR
  have hRt := W_hid (fun w => rRight_any false h true p f (lv h : Nat) (by simp [hr]) w)
  obtain ⟨S, hS⟩ : ∃ S, S = EN.sz (lv h - 1) := ⟨_, rfl⟩
  have hS2 : Hid (∀ w, Calls Tryz.prog 24 #[.agg #[.int .u64 (va : Int), .int .u64 (f : Int), .int .i64 p, .bool h]] w fun e w' => e = .returned (.int .u64 (S : Int)) ∧ Below w.heap.size w w') := W_hid (fun w => by
    have := rSize_any (va : Int) (f : Int) p h w
    rw [lv_psz, ← hS] at this; exact this)
  have hSz := W_hid rSize_any
  have hSp : 0 < S := by rw [hS]; exact EN.sz_pos _
  have hSl : S ≤ 2097152 := by rw [hS, ← lv_psz]; unfold RX.psz; split <;> omega
  have hmod : (va : Int).tmod (S : Int) = 0 := by
    have : va % S = 0 := by rw [hS]; exact hsz
    show ((va % S : Nat) : Int) = 0
    rw [this]; rfl
  have d2 : decide ((140737488355328 : Int) ≤ (va : Int)) = false := by simp; omega
  have hzn : ¬ S = 0 := by omega
  have hzi : ¬ (S : Int) = 0 := by omega
  have hwS : IntKind.u64.wrap ((va : Int) + (S : Int)) = (va : Int) + (S : Int) := IntWalk.u64_in _ (by omega)
  obtain ⟨l, hl⟩ : ∃ l, l = lv h := ⟨_, rfl⟩
  have hl1 : 1 ≤ l := by omega
  have hl2 : l ≤ 2 := by omega
  have hrise := W_hid hP.rise
  rw [← hl] at hRt
  rw [← hl] at hlv
  rw [← hS] at hov hno
  have HD := W_hid hD
  replace hov := W_hid hov
  replace hno := W_hid hno
  replace hl := W_hid hl
  have bA : Below w.heap.size w (w.alloc (.cells #[.int .u64 (va : Int), .int .u64 (f : Int), .int .i64 p, .bool h] 38)) := (Below.refl w.heap.size w).alloc (Nat.le_refl _) _
  have HM := W_hid (show DM (w.alloc (.cells #[.int .u64 (va : Int), .int .u64 (f : Int), .int .i64 p, .bool h] 38)) D g pg pb n T lv0 tv L Tl ∧ Blk (w.alloc (.cells #[.int .u64 (va : Int), .int .u64 (f : Int), .int .i64 p, .bool h] 38)) w.heap.size 38 [.int .u64 (va : Int), .int .u64 (f : Int), .int .i64 p, .bool h] ∧ Below w.heap.size w (w.alloc (.cells #[.int .u64 (va : Int), .int .u64 (f : Int), .int .i64 p, .bool h] 38)) from ⟨hDM.keep bA, Blk.new w _ _ rfl, bA⟩)
  have hlens := hDM.lens
  obtain ⟨⟨a0, cap0, rfl, hc1, hc2⟩, -⟩ := hlens
  unfold maxLen at hc2
  have hkeep := W_hid (show RX.PB L G ∧ RX.TB Tl F r ∧ RX.Inv F G r n ∧ Tl.length ≤ 90000 ∧ S = EN.sz (lv h - 1) ∧ va % EN.sz (lv h - 1) = 0 ∧ (f < 68719476736) ∧ va < 140737488355328 from ⟨hP, hB, I, hTl, hS, hsz, hr.2.2.1, hva⟩)
  clear hDM I hP hB hG hr hsz hR hD bA hS hTl
  go_enter Tryz.func51, Tryz.ntmps51
  go_upto_if 16 with fail
  refine wp_world (fun W => DM W D g pg pb n T (.slice a0 L.length cap0) tv L Tl ∧ Blk W w.heap.size 38 [.int .u64 (va : Int), .int .u64 (f : Int), .int .i64 p, .bool h] ∧ Below w.heap.size w W) HM.out ?_
  rintro W ⟨hD0, hM0, bel0⟩
  replace hD0 := W_hid hD0
  replace hM0 := W_hid hM0
  replace bel0 := W_hid bel0
  clear HM
  go_cut [5] from 15 to 16 (fun s5 wc => s5 = .int .i64 (l : Int) ∧ wc = W)
  case first =>
    cases h with
    | true =>
      obtain rfl : l = 2 := hl.out
      go_wp2
      go_meet
      case rel => exact ⟨rfl, rfl⟩
    | false =>
      obtain rfl : l = 1 := hl.out
      go_wp2
      go_meet
      case rel => exact ⟨rfl, rfl⟩
  case rest =>
    obtain ⟨rfl, rfl⟩ := hcut
    have k0 := hM0.out.cell (j := 0) rfl
    have k1 := hM0.out.cell (j := 1) rfl
    have k2 := hM0.out.cell (j := 2) rfl
    have k3 := hM0.out.cell (j := 3) rfl
    go_wp2_with fail
    refine (hRt.out _).mono ?_
    rintro e w1 ⟨rfl, bel1⟩
    have hM1 := hM0.out.keep bel1
    have y0 := hM1.cell (j := 0) rfl
    have y1 := hM1.cell (j := 1) rfl
    have y2 := hM1.cell (j := 2) rfl
    have y3 := hM1.cell (j := 3) rfl
    have hD1 := W_hid (hD0.out.keep bel1)
    replace hM1 := W_hid hM1
    have bel2 := W_hid (bel0.out.trans (bel1.mono bel0.out.size))
    clear bel1 hRt hD0 hM0 bel0 k0 k1 k2 k3
    go_wp2_with fail
    go_region_held3 (fun w' => w'.cell? ⟨w.heap.size, 0, none⟩ = some (.int .u64 (va : Int)) ∧ w'.cell? ⟨w.heap.size, 1, none⟩ = some (.int .u64 (f : Int)) ∧ w'.cell? ⟨w.heap.size, 2, none⟩ = some (.int .i64 p) ∧ w'.cell? ⟨w.heap.size, 3, none⟩ = some (.bool h)) (first | assumption | go_keep)
      (first | (go_at_call 24; refine (hS2.out _).mono ?_; rintro e w2 ⟨rfl, bel3⟩; have x0 := cell_keep bel3 rfl y0; have x1 := cell_keep bel3 rfl y1; have x2 := cell_keep bel3 rfl y2; have x3 := cell_keep bel3 rfl y3; have bl := W_hid (bel_step bel2.out bel3); have hD2 := W_hid (hD1.out.keep (bundrew bel3)); have hM2 := W_hid (hM1.out.keep (bundrew bel3)); clear bel3))
    clear y0 y1 y2 y3 x0 x1 x2 x3 hD1 hM1 bel2
    obtain ⟨N, hN⟩ : ∃ N, L.length = N := ⟨_, rfl⟩
    rw [hN] at hD2 hc1 hLl
    replace hN := W_hid hN
    go_wp2_with fail
    go_loopw [7, 8] (fun pl i wr => ∃ k q : Nat, k ≤ N ∧ q ≤ k ∧ i = .int .i64 (k : Int) ∧ pl = .int .i64 (q : Int) ∧ Hid (∀ (j : Nat) (hj : j < L.length), j < q → L[j].1 < va) ∧ Hid (∀ (j : Nat) (hj : j < L.length), q ≤ j → j < k → va < L[j].1) ∧ Hid (∀ (j : Nat) (hj : j < L.length), j < k → ¬ ovl va S L[j]) ∧
      Hid (DM wr D g pg pb n T (.slice a0 N cap0) tv L Tl) ∧ Hid (Blk wr w.heap.size 38 [.int .u64 (va : Int), .int .u64 (f : Int), .int .i64 p, .bool h]) ∧ Hid (Below w.heap.size w wr)) (fun _ i _ => N - (intOf i).toNat)
    case atStart => exact ⟨0, 0, Nat.zero_le _, Nat.le_refl _, rfl, rfl, W_hid (fun j hj h => by omega), W_hid (fun j hj h1 h2 => by omega), W_hid (fun j hj h => by omega), hD2, hM2, bl⟩
    case round =>
      clear hD2 hM2 bl
      obtain ⟨k, q, hk, hqk, rfl, rfl, hlo, hhi, hnv, hD3, hM3, bel3⟩ := hrel
      have c1 := hD3.out.c1
      by_cases hlt : k < N
      · have hk' : k < L.length := by rw [hN.out]; exact hlt
        obtain ⟨b, o, cap, e0, -, -, t0, t1, t2, t3, l0, l1⟩ := hD3.out.page hk'
        rw [hN.out] at e0
        simp only [Value.slice.injEq] at e0
        obtain ⟨rfl, -, rfl⟩ := e0
        have hi1 : (k : Int) < N := by omega
        have hx : Hid (ovl va S L[k] ↔ (L[k].1 < va + S ∧ va < L[k].1 + RX.psz L[k].2.2.2)) := W_hid Iff.rfl
        have hmemk : Hid (L[k] ∈ L) := W_hid (List.getElem_mem hk')
        have hupL : Hid (∀ (j : Nat) (hj : j < L.length), j < k → L[j].1 < L[k].1) := W_hid (fun j hj h => by
          have := hrise.out
          unfold RX.Rising at this
          rw [List.pairwise_iff_getElem] at this
          exact this j k hj hk' h)
        have hnvS := W_hid (fun (hh : ¬ ovl va S L[k]) (j : Nat) (hj : j < L.length) (h : j < k + 1) => show ¬ ovl va S L[j] from by
          by_cases e : j = k
          · subst e; exact hh
          · exact hnv.out j hj (by omega))
        have hloS := W_hid (fun (hh : L[k].1 < va) (j : Nat) (hj : j < L.length) (h : j < k + 1) => show L[j].1 < va from by
          by_cases e : j = k
          · subst e; exact hh
          · have := hupL.out j hj (by omega); omega)
        have hhiS := W_hid (fun (hh : va < L[k].1) (j : Nat) (hj : j < L.length) (h1 : q ≤ j) (h : j < k + 1) => show va < L[j].1 from by
          by_cases e : j = k
          · subst e; exact hh
          · exact hhi.out j hj h1 (by omega))
        clear hupL
        generalize L[k] = x at *
        obtain ⟨v, fx, px, hu⟩ := x
        simp only at t0 t1 t2 t3 l0 l1 hx hloS hhiS
        obtain ⟨sx, hsx⟩ : ∃ sx, RX.psz hu = sx := ⟨_, rfl⟩
        have hsxl : sx ≤ 2097152 := by rw [← hsx]; unfold RX.psz; split <;> omega
        have hsxp : 0 < sx := by rw [← hsx]; unfold RX.psz; split <;> omega
        have hSx := W_hid (fun w => hSz.out v fx px hu w)
        rw [hsx] at hSx hx
        have hwx : IntKind.u64.wrap ((v : Int) + (sx : Int)) = (v : Int) + (sx : Int) := IntWalk.u64_in _ (by omega)
        have bA : Below wr.heap.size wr (wr.alloc (.cells #[.int .u64 (v : Int), .int .u64 (fx : Int), .int .i64 px, .bool hu] 38)) := (Below.refl _ _).alloc (Nat.le_refl _) _
        have HW := W_hid (show DM (wr.alloc (.cells #[.int .u64 (v : Int), .int .u64 (fx : Int), .int .i64 px, .bool hu] 38)) D g pg pb n T (.slice (some ⟨b, o, none⟩) N cap0) tv L Tl ∧ Blk (wr.alloc (.cells #[.int .u64 (v : Int), .int .u64 (fx : Int), .int .i64 px, .bool hu] 38)) w.heap.size 38 [.int .u64 (va : Int), .int .u64 (f : Int), .int .i64 p, .bool h] ∧ Blk (wr.alloc (.cells #[.int .u64 (v : Int), .int .u64 (fx : Int), .int .i64 px, .bool hu] 38)) wr.heap.size 38 [.int .u64 (v : Int), .int .u64 (fx : Int), .int .i64 px, .bool hu] ∧ Below w.heap.size w (wr.alloc (.cells #[.int .u64 (v : Int), .int .u64 (fx : Int), .int .i64 px, .bool hu] 38))
          from ⟨hD3.out.keep bA, hM3.out.keep bA, Blk.new wr _ _ rfl, bel3.out.trans (bA.mono bel3.out.size)⟩)
        clear hsx bA hD3 hM3 bel3 hnv hSz
        go_upto_region 12 with fail
        refine wp_world (fun W => DM W D g pg pb n T (.slice (some ⟨b, o, none⟩) N cap0) tv L Tl ∧ Blk W w.heap.size 38 [.int .u64 (va : Int), .int .u64 (f : Int), .int .i64 p, .bool h] ∧ Blk W wr.heap.size 38 [.int .u64 (v : Int), .int .u64 (fx : Int), .int .i64 px, .bool hu] ∧ Below w.heap.size w W) HW.out ?_
        rintro W ⟨hD4, hM4, hX4, bel4⟩
        clear HW t0 t1 t2 t3 c1
        have m0 := hM4.cell (j := 0) rfl
        have m1 := hM4.cell (j := 1) rfl
        have m2 := hM4.cell (j := 2) rfl
        have m3 := hM4.cell (j := 3) rfl
        have z0 := hX4.cell (j := 0) rfl
        have z1 := hX4.cell (j := 1) rfl
        have z2 := hX4.cell (j := 2) rfl
        have z3 := hX4.cell (j := 3) rfl
        replace hD4 := W_hid hD4
        replace hM4 := W_hid hM4
        replace hX4 := W_hid hX4
        replace bel4 := W_hid bel4
        by_cases o1 : v < va + S
        · have d3 : decide ((v : Int) < (va : Int) + (S : Int)) = true := by simp; omega
          by_cases o2 : va < v + sx
          · have d4 : decide ((va : Int) < (v : Int) + (sx : Int)) = true := by simp; omega
            have hc := W_hid (hov.out ⟨_, hmemk.out, hx.out.2 ⟨o1, o2⟩⟩)
            clear hx hnvS hloS hhiS hno hlo hhi
            go_wp2_with fail
            go_region_held3 (fun w' => w'.cell? ⟨w.heap.size, 0, none⟩ = some (.int .u64 (va : Int)) ∧ w'.cell? ⟨w.heap.size, 1, none⟩ = some (.int .u64 (f : Int)) ∧ w'.cell? ⟨w.heap.size, 2, none⟩ = some (.int .i64 p) ∧ w'.cell? ⟨w.heap.size, 3, none⟩ = some (.bool h) ∧ w'.cell? ⟨wr.heap.size, 0, none⟩ = some (.int .u64 (v : Int)) ∧ w'.cell? ⟨wr.heap.size, 1, none⟩ = some (.int .u64 (fx : Int)) ∧ w'.cell? ⟨wr.heap.size, 2, none⟩ = some (.int .i64 px) ∧ w'.cell? ⟨wr.heap.size, 3, none⟩ = some (.bool hu)) (first | assumption | go_keep)
              (first | (go_at_call 24; refine (hS2.out _).mono ?_; rintro e w5 ⟨rfl, bel5⟩; have n0 := cell_keep bel5 rfl m0; have n1 := cell_keep bel5 rfl m1; have n2 := cell_keep bel5 rfl m2; have n3 := cell_keep bel5 rfl m3; have n4 := cell_keep bel5 rfl z0; have n5 := cell_keep bel5 rfl z1; have n6 := cell_keep bel5 rfl z2; have n7 := cell_keep bel5 rfl z3; have b5 : Hid (Below W.heap.size W w5) := W_hid (bundrew bel5); clear bel5) | (go_at_call 24; refine (hSx.out _).mono ?_; rintro e w6 ⟨rfl, bel6⟩; have q0 := cell_keep bel6 rfl n0; have q1 := cell_keep bel6 rfl n1; have q2 := cell_keep bel6 rfl n2; have q3 := cell_keep bel6 rfl n3; have q4 := cell_keep bel6 rfl n4; have q5 := cell_keep bel6 rfl n5; have q6 := cell_keep bel6 rfl n6; have q7 := cell_keep bel6 rfl n7; have b6 : Hid (Below W.heap.size W w6) := W_hid (b5.out.trans (bel6.mono b5.out.size)); clear bel6))
            go_wp2_with fail
            go_ret
            obtain ⟨rfl, rfl, rfl, rfl⟩ := hc.out
            exact ⟨rfl, D, _, tv, L, Tl, hD4.out.keep b6.out, hkeep.out.1, hkeep.out.2.1, by omega, by omega, Mv.of (bel4.out.trans (b6.out.mono bel4.out.size))⟩
          · have d4 : decide ((va : Int) < (v : Int) + (sx : Int)) = false := by simp; omega
            have hlt2 : v < va := by omega
            have hnv := W_hid (hnvS.out (fun hh => o2 (hx.out.1 hh).2))
            have hlo := W_hid (hloS.out hlt2)
            clear hx hnvS hloS hhiS hhi
            go_wp2_with fail
            go_region_held3 (fun w' => w'.cell? ⟨w.heap.size, 0, none⟩ = some (.int .u64 (va : Int)) ∧ w'.cell? ⟨w.heap.size, 1, none⟩ = some (.int .u64 (f : Int)) ∧ w'.cell? ⟨w.heap.size, 2, none⟩ = some (.int .i64 p) ∧ w'.cell? ⟨w.heap.size, 3, none⟩ = some (.bool h) ∧ w'.cell? ⟨wr.heap.size, 0, none⟩ = some (.int .u64 (v : Int)) ∧ w'.cell? ⟨wr.heap.size, 1, none⟩ = some (.int .u64 (fx : Int)) ∧ w'.cell? ⟨wr.heap.size, 2, none⟩ = some (.int .i64 px) ∧ w'.cell? ⟨wr.heap.size, 3, none⟩ = some (.bool hu)) (first | assumption | go_keep)
              (first | (go_at_call 24; refine (hS2.out _).mono ?_; rintro e w5 ⟨rfl, bel5⟩; have n0 := cell_keep bel5 rfl m0; have n1 := cell_keep bel5 rfl m1; have n2 := cell_keep bel5 rfl m2; have n3 := cell_keep bel5 rfl m3; have n4 := cell_keep bel5 rfl z0; have n5 := cell_keep bel5 rfl z1; have n6 := cell_keep bel5 rfl z2; have n7 := cell_keep bel5 rfl z3; have b5 : Hid (Below W.heap.size W w5) := W_hid (bundrew bel5); clear bel5) | (go_at_call 24; refine (hSx.out _).mono ?_; rintro e w6 ⟨rfl, bel6⟩; have q0 := cell_keep bel6 rfl n0; have q1 := cell_keep bel6 rfl n1; have q2 := cell_keep bel6 rfl n2; have q3 := cell_keep bel6 rfl n3; have q4 := cell_keep bel6 rfl n4; have q5 := cell_keep bel6 rfl n5; have q6 := cell_keep bel6 rfl n6; have q7 := cell_keep bel6 rfl n7; have b6 : Hid (Below W.heap.size W w6) := W_hid (b5.out.trans (bel6.mono b5.out.size)); clear bel6))
            have hD7 := W_hid (hD4.out.keep b6.out)
            have hM7 := W_hid (hM4.out.keep b6.out)
            have bel7 := W_hid (bel4.out.trans (b6.out.mono bel4.out.size))
            clear hD4 hM4 hX4 bel4
            go_wp2_with fail
            go_roundw
            case rel => exact ⟨k + 1, k + 1, by omega, by omega, by go_num, by go_num, hlo, W_hid (fun j hj h1 h2 => by omega), hnv, hD7, hM7, bel7⟩
            case measure => simp [intOf]; omega
        · have d3 : decide ((v : Int) < (va : Int) + (S : Int)) = false := by simp; omega
          have hlt2 : ¬ v < va := by omega
          have hnv := W_hid (hnvS.out (fun hh => o1 (hx.out.1 hh).1))
          have hhi2 := W_hid (hhiS.out (by omega))
          clear hx hnvS hloS hhiS
          go_wp2_with fail
          refine wp_region_held_drew (S := (fun w' => w'.cell? ⟨w.heap.size, 0, none⟩ = some (.int .u64 (va : Int)) ∧ w'.cell? ⟨w.heap.size, 1, none⟩ = some (.int .u64 (f : Int)) ∧ w'.cell? ⟨w.heap.size, 2, none⟩ = some (.int .i64 p) ∧ w'.cell? ⟨w.heap.size, 3, none⟩ = some (.bool h) ∧ w'.cell? ⟨wr.heap.size, 0, none⟩ = some (.int .u64 (v : Int)) ∧ w'.cell? ⟨wr.heap.size, 1, none⟩ = some (.int .u64 (fx : Int)) ∧ w'.cell? ⟨wr.heap.size, 2, none⟩ = some (.int .i64 px) ∧ w'.cell? ⟨wr.heap.size, 3, none⟩ = some (.bool hu))) (by kernel_rfl) ⟨m0, m1, m2, m3, z0, z1, z2, z3⟩ (fun hHeld => ?_)
          refine wpAnyH_take (i := 0) (v := .pointer (some ⟨wr.heap.size, 0, none⟩)) rfl (by kernel_rfl) (by kernel_rfl) (by kernel_rfl) (fun _ _ _ h => h) (Or.inl ⟨by rfl, fun w0 ⟨s1, s2, s3, s4, s5, s6, s7, s8⟩ => ?_⟩) hHeld ?_
          · go_simp
          simp only [List.getElem_toArray, List.getElem_cons_zero, List.getElem_cons_succ, Act.put, List.setIfInBounds_toArray, List.set_cons_zero, List.set_cons_succ]
          refine wpAnyH_take (i := 1) (v := .int .u64 (v : Int)) rfl (by kernel_rfl) (by kernel_rfl) (by kernel_rfl) (fun _ _ _ h => h) (Or.inl ⟨by rfl, fun w0 ⟨s1, s2, s3, s4, s5, s6, s7, s8⟩ => ?_⟩) hHeld ?_
          · go_simp
          simp only [List.getElem_toArray, List.getElem_cons_zero, List.getElem_cons_succ, Act.put, List.setIfInBounds_toArray, List.set_cons_zero, List.set_cons_succ]
          refine wpAnyH_take (i := 2) (v := .pointer (some ⟨w.heap.size, 0, none⟩)) rfl (by kernel_rfl) (by kernel_rfl) (by kernel_rfl) (fun _ _ _ h => h) (Or.inl ⟨by rfl, fun w0 ⟨s1, s2, s3, s4, s5, s6, s7, s8⟩ => ?_⟩) hHeld ?_
          · go_simp
          simp only [List.getElem_toArray, List.getElem_cons_zero, List.getElem_cons_succ, Act.put, List.setIfInBounds_toArray, List.set_cons_zero, List.set_cons_succ]
          refine wpAnyH_take (i := 3) (v := .int .u64 (va : Int)) rfl (by kernel_rfl) (by kernel_rfl) (by kernel_rfl) (fun _ _ _ h => h) (Or.inl ⟨by rfl, fun w0 ⟨s1, s2, s3, s4, s5, s6, s7, s8⟩ => ?_⟩) hHeld ?_
          · go_simp
          simp only [List.getElem_toArray, List.getElem_cons_zero, List.getElem_cons_succ, Act.put, List.setIfInBounds_toArray, List.set_cons_zero, List.set_cons_succ]
          refine wpAnyH_take (i := 4) (v := .agg #[.int .u64 (va : Int), .int .u64 (f : Int), .int .i64 p, .bool h]) rfl (by kernel_rfl) (by kernel_rfl) (by kernel_rfl) (fun _ _ _ h => h) (Or.inl ⟨by rfl, fun w0 ⟨s1, s2, s3, s4, s5, s6, s7, s8⟩ => ?_⟩) hHeld ?_
          · go_simp
          simp only [List.getElem_toArray, List.getElem_cons_zero, List.getElem_cons_succ, Act.put, List.setIfInBounds_toArray, List.set_cons_zero, List.set_cons_succ]
          refine wpAnyH_ready (rs := [5]) (by kernel_rfl) (by simp) ?_
          refine AllReadyH.cons rfl (fun K hK => ?_) AllReadyH.nil
          go_simp
          refine (hS2.out _).mono ?_
          rintro e w5 ⟨rfl, bel5⟩
          have n0 := cell_keep bel5 rfl m0
          have n1 := cell_keep bel5 rfl m1
          have n2 := cell_keep bel5 rfl m2
          have n3 := cell_keep bel5 rfl m3
          have n4 := cell_keep bel5 rfl z0
          have n5 := cell_keep bel5 rfl z1
          have n6 := cell_keep bel5 rfl z2
          have n7 := cell_keep bel5 rfl z3
          have b5 : Hid (Below W.heap.size W w5) := W_hid (bundrew bel5)
          clear bel5
          refine hK.out _ _ ⟨n0, n1, n2, n3, n4, n5, n6, n7⟩ (fun hHeld2 => ?_)
          try simp only [List.getElem_toArray, List.getElem_cons_zero, List.getElem_cons_succ, Act.put, List.setIfInBounds_toArray, List.set_cons_zero, List.set_cons_succ]
          refine wpAnyH_take (i := 6) (v := .int .u64 ((va : Int) + (S : Int))) rfl (by kernel_rfl) (by kernel_rfl) (by kernel_rfl) (fun _ _ _ h => h) (Or.inl ⟨by rfl, fun w0 ⟨s1, s2, s3, s4, s5, s6, s7, s8⟩ => ?_⟩) hHeld2 ?_
          · go_simp
          simp only [List.getElem_toArray, List.getElem_cons_zero, List.getElem_cons_succ, Act.put, List.setIfInBounds_toArray, List.set_cons_zero, List.set_cons_succ]
          refine wpAnyH_take (i := 7) (v := .bool false) rfl (by kernel_rfl) (by kernel_rfl) (by kernel_rfl) (fun _ _ _ h => h) (Or.inl ⟨by rfl, fun w0 ⟨s1, s2, s3, s4, s5, s6, s7, s8⟩ => ?_⟩) hHeld2 ?_
          · go_simp
          simp only [List.getElem_toArray, List.getElem_cons_zero, List.getElem_cons_succ, Act.put, List.setIfInBounds_toArray, List.set_cons_zero, List.set_cons_succ]
          refine wpAnyH_take (i := 8) (v := .bool false) rfl (by kernel_rfl) (by kernel_rfl) (by kernel_rfl) (fun _ _ _ h => h) (Or.inl ⟨by rfl, fun w0 ⟨s1, s2, s3, s4, s5, s6, s7, s8⟩ => ?_⟩) hHeld2 ?_
          · go_simp
          simp only [List.getElem_toArray, List.getElem_cons_zero, List.getElem_cons_succ, Act.put, List.setIfInBounds_toArray, List.set_cons_zero, List.set_cons_succ]
          refine wpAnyH_take (i := 9) (v := undef) rfl (by kernel_rfl) (by kernel_rfl) (by kernel_rfl) (fun _ _ _ h => h) (Or.inr ⟨by rfl, rfl⟩) hHeld2 ?_
          simp only [List.getElem_toArray, List.getElem_cons_zero, List.getElem_cons_succ, Act.put, List.setIfInBounds_toArray, List.set_cons_zero, List.set_cons_succ]
          refine wpAnyH_take (i := 10) (v := undef) rfl (by kernel_rfl) (by kernel_rfl) (by kernel_rfl) (fun _ _ _ h => h) (Or.inr ⟨by rfl, rfl⟩) hHeld2 ?_
          simp only [List.getElem_toArray, List.getElem_cons_zero, List.getElem_cons_succ, Act.put, List.setIfInBounds_toArray, List.set_cons_zero, List.set_cons_succ]
          refine wpAnyH_take (i := 11) (v := undef) rfl (by kernel_rfl) (by kernel_rfl) (by kernel_rfl) (fun _ _ _ h => h) (Or.inr ⟨by rfl, rfl⟩) hHeld2 ?_
          simp only [List.getElem_toArray, List.getElem_cons_zero, List.getElem_cons_succ, Act.put, List.setIfInBounds_toArray, List.set_cons_zero, List.set_cons_succ]
          refine wpAnyH_take (i := 12) (v := undef) rfl (by kernel_rfl) (by kernel_rfl) (by kernel_rfl) (fun _ _ _ h => h) (Or.inr ⟨by rfl, rfl⟩) hHeld2 ?_
          simp only [List.getElem_toArray, List.getElem_cons_zero, List.getElem_cons_succ, Act.put, List.setIfInBounds_toArray, List.set_cons_zero, List.set_cons_succ]
          refine wpAnyH_take (i := 13) (v := undef) rfl (by kernel_rfl) (by kernel_rfl) (by kernel_rfl) (fun _ _ _ h => h) (Or.inr ⟨by rfl, rfl⟩) hHeld2 ?_
          simp only [List.getElem_toArray, List.getElem_cons_zero, List.getElem_cons_succ, Act.put, List.setIfInBounds_toArray, List.set_cons_zero, List.set_cons_succ]
          refine wpAnyH_take (i := 14) (v := undef) rfl (by kernel_rfl) (by kernel_rfl) (by kernel_rfl) (fun _ _ _ h => h) (Or.inr ⟨by rfl, rfl⟩) hHeld2 ?_
          simp only [List.getElem_toArray, List.getElem_cons_zero, List.getElem_cons_succ, Act.put, List.setIfInBounds_toArray, List.set_cons_zero, List.set_cons_succ]
          refine wpAnyH_take (i := 15) (v := undef) rfl (by kernel_rfl) (by kernel_rfl) (by kernel_rfl) (fun _ _ _ h => h) (Or.inr ⟨by rfl, rfl⟩) hHeld2 ?_
          simp only [List.getElem_toArray, List.getElem_cons_zero, List.getElem_cons_succ, Act.put, List.setIfInBounds_toArray, List.set_cons_zero, List.set_cons_succ]
          refine wpAnyH_take (i := 16) (v := undef) rfl (by kernel_rfl) (by kernel_rfl) (by kernel_rfl) (fun _ _ _ h => h) (Or.inr ⟨by rfl, rfl⟩) hHeld2 ?_
          simp only [List.getElem_toArray, List.getElem_cons_zero, List.getElem_cons_succ, Act.put, List.setIfInBounds_toArray, List.set_cons_zero, List.set_cons_succ]
          refine wpAnyH_take (i := 17) (v := .bool false) rfl (by kernel_rfl) (by kernel_rfl) (by kernel_rfl) (fun _ _ _ h => h) (Or.inl ⟨by rfl, fun w0 ⟨s1, s2, s3, s4, s5, s6, s7, s8⟩ => ?_⟩) hHeld2 ?_
          · go_simp
          simp only [List.getElem_toArray, List.getElem_cons_zero, List.getElem_cons_succ, Act.put, List.setIfInBounds_toArray, List.set_cons_zero, List.set_cons_succ]
          refine wpAnyH_done (by kernel_rfl) ?_ _
          have hD7 := W_hid (hD4.out.keep b5.out)
          have hM7 := W_hid (hM4.out.keep b5.out)
          have bel7 := W_hid (bel4.out.trans (b5.out.mono bel4.out.size))
          clear hD4 hM4 hX4 bel4
          go_wp2_with fail
          go_roundw
          case rel => exact ⟨k + 1, q, by omega, by omega, by go_num, rfl, hlo, hhi2, hnv, hD7, hM7, bel7⟩
          case measure => simp [intOf]; omega
      · obtain rfl : k = N := by omega
        have hnov : ¬ ∃ x ∈ L, ovl va S x := by
          rintro ⟨x, hx, ho⟩
          obtain ⟨j, hj, rfl⟩ := List.getElem_of_mem hx
          exact hnv.out j hj (by rw [← hN.out]; exact hj) ho
        obtain ⟨Lv, fr, fs, hd, hts, hGn, hcs⟩ := hno.out hnov
        have hI := hkeep.out.2.2.1
        have hLv4 := hd.l4
        have hLvl : l ≤ Lv := by have := hd.ge; have := hl.out; omega
        have hlow := W_hid (fun j (h1 : l ≤ j) (h2 : j < Lv) => RX.desc_below hI hd j (by have := hl.out; omega) h2)
        have hon := W_hid hd.on
        have hcs : (c = 24 ∧ fs.length < Lv - l ∧ FR.NoLow (takeAll T fs) n 1 ∧ F' = F ∧ G' = G ∧ T' = T) ∨ (c = 0 ∧ fs.length = Lv - l ∧ F' = RX.addT F va Lv fs ∧ G' = RX.updG G l (va / EN.sz (l - 1)) (some (f, p)) ∧ T' = takeAll T fs) := by rw [hl.out]; exact hcs
        have hfl : fs.length ≤ Lv - l := by rcases hcs with h | h <;> omega
        replace hcs := W_hid hcs
        replace hGn := W_hid hGn
        replace hts := W_hid hts
        have hn2 := hI.n2
        clear hno hov hnov hd hnv hrise hSz hS2 hI
        go_wp2_with fail
        go_loopw [10, 11] (fun la kk wr => ∃ (t j : Nat) (D' : List Nat) (tv' : Value), t ≤ 3 ∧ l ≤ t + 1 ∧ kk = .int .i64 (t : Int) ∧ la = .int .i64 (j : Int) ∧ j ≤ fs.length ∧ ((Lv ≤ t + 1 ∧ j = 0) ∨ (t + 1 < Lv ∧ j = Lv - 1 - t)) ∧
          Hid (DM wr D' g pg pb n (takeAll T (fs.take j)) (.slice a0 k cap0) tv' L (Tl ++ nw va Lv fs j)) ∧ Hid (RX.TB (Tl ++ nw va Lv fs j) (RX.addT F va Lv (fs.take j)) r) ∧ Hid (Mv D D' w wr) ∧ Hid (Blk wr w.heap.size 38 [.int .u64 (va : Int), .int .u64 (f : Int), .int .i64 p, .bool h]) ∧ Hid (w.heap.size ∉ D')) (fun _ kk _ => (intOf kk).toNat + 1)
        case atStart =>
          refine ⟨3, 0, D, tv, by omega, by omega, rfl, rfl, Nat.zero_le _, by omega, ?_, ?_, W_hid (Mv.of bel3.out), hM3, W_hid (fun hm => by have := HD.out _ hm; omega)⟩
          · rw [List.take_zero, take_nil, show nw va Lv fs 0 = [] from rfl, List.append_nil]
            exact hD3
          · rw [List.take_zero, show nw va Lv fs 0 = [] from rfl, List.append_nil]
            exact W_hid hkeep.out.2.1
        case round =>
          clear hD3 hM3 bel3
          obtain ⟨t, j, D2, tv2, ht3, htl, rfl, rfl, hj, hjt, hDM, hTB, hMv, hM, hrb⟩ := hrel
          have y0 := hM.out.cell (j := 0) rfl
          by_cases hge : l ≤ t
          · have hT := W_hid (table_any D2 g pg pb n (takeAll T (fs.take j)) _ tv2 L _ wr hDM.out t va (by omega) (by omega) (by omega))
            by_cases hc : Lv ≤ t
            · obtain rfl : j = 0 := by omega
              have hTB0 : RX.TB (Tl ++ nw va Lv fs 0) F r := by have := hTB.out; rw [List.take_zero] at this; exact this
              obtain ⟨ix, hix, -⟩ := hTB0.yes (hon.out t hc (by omega))
              rw [hix] at hT
              clear hTB0 hix
              go_wp2_with fail
              refine hT.out.mono ?_
              rintro e w4 ⟨rfl, q', rfl⟩
              have bel4 := W_hid (below_drewN (Below.refl wr.heap.size wr) q')
              unfold ixI
              go_wp2_with fail
              go_roundw
              case rel => exact ⟨t - 1, 0, D2, tv2, by omega, by omega, by congr 1; omega, rfl, hj, by omega, W_hid (hDM.out.keep bel4.out), hTB, W_hid (hMv.out.trans (Mv.of bel4.out)), W_hid (hM.out.keep bel4.out), hrb⟩
              case measure => simp [intOf]; omega
            · have hj2 : j = Lv - 1 - t := by omega
              have hFn : RX.addT F va Lv (fs.take j) t (va / EN.sz t) = none := by
                rw [RX.addT_ne (fs.take j) F va Lv t _ (by rw [List.length_take]; omega) (by rw [List.length_take]; omega)]
                exact hlow.out t hge (by omega)
              rw [hTB.out.no hFn] at hT
              have hlens := hDM.out.lens
              obtain ⟨-, a2, cap2, htv2, hcc1, hcc2⟩ := hlens
              subst htv2
              have hNTl : (Tl ++ nw va Lv fs j).length ≤ 100000 := by rw [List.length_append, nw_len]; have := hkeep.out.2.2.2.1; omega
              obtain ⟨NT, hNT⟩ : ∃ NT, (Tl ++ nw va Lv fs j).length = NT := ⟨_, rfl⟩
              by_cases hjl : j < fs.length
              · have hlj := hts.out j hjl
                have hga : fs.getD j 0 = fs[j] := by rw [List.getD, List.getElem?_eq_getElem hjl]; rfl
                have hfjn := (low_one hlj).1
                have hAl := W_hid (fun w h => rAlloc_any pg pb n _ _ 1 fs[j] 0 w h (gets_one hlj))
                rw [take_snoc', ← hga, ← take_succ_getD fs j hjl] at hAl
                rw [← hga] at hfjn
                have hTBn : RX.TB (Tl ++ nw va Lv fs (j + 1)) (RX.addT F va Lv (fs.take (j + 1))) r := by
                  have h1 := hTB.out.add (f := fs.getD j 0) hFn (by omega)
                  rw [nw_succ, ← List.append_assoc, take_succ_getD fs j hjl, RX.addT_snoc _ _ _ _ _ (by rw [List.length_take]; omega), List.length_take, Nat.min_eq_left hj, show Lv - j - 1 = t by omega, show Lv - 1 - j = t by omega]
                  exact h1
                have hnwl : Tl ++ nw va Lv fs (j + 1) = (Tl ++ nw va Lv fs j) ++ [(fs.getD j 0, t, va / EN.sz t * EN.sz t)] := by rw [nw_succ, ← List.append_assoc, show Lv - 1 - j = t by omega]
                obtain ⟨fj, hfj⟩ : ∃ fj, fj = fs.getD j 0 := ⟨_, rfl⟩
                rw [← hfj] at hAl hfjn hnwl
                have hSpn := W_hid (fun w => rspan_any t (by omega) (by omega) w)
                obtain ⟨sT, hsT⟩ : ∃ sT, sT = EN.sz t := ⟨_, rfl⟩
                have hsTp : 0 < sT := by rw [hsT]; exact EN.sz_pos t
                have hsTl : sT ≤ 281474976710656 := by rw [hsT]; exact EN.sz_le t (by omega)
                have hfrom := RX.sub_mod va (EN.sz t)
                rw [← hsT] at hSpn hnwl hfrom
                obtain ⟨mT, hmT⟩ : ∃ mT, va % sT = mT := ⟨_, rfl⟩
                have hmT1 : mT ≤ va := by rw [← hmT]; exact Nat.mod_le _ _
                have hmodT : (va : Int).tmod (sT : Int) = (mT : Int) := by rw [← hmT]; rfl
                have hwT : IntKind.u64.wrap ((va : Int) - (mT : Int)) = (va : Int) - (mT : Int) := IntWalk.u64_in _ (by omega)
                have hsTn : ¬ sT = 0 := by omega
                rw [← hfrom, hmT] at hnwl
                have hcs3 : tcl [(fj, t, va - mT)] = [.int .u64 (fj : Int), .int .i64 (t : Int), .int .u64 ((va : Int) - (mT : Int))] := by
                  show [Value.int .u64 (fj : Int), .int .i64 (t : Int), .int .u64 ((va - mT : Nat) : Int)] = _
                  rw [show ((va - mT : Nat) : Int) = (va : Int) - (mT : Int) by omega]
                replace hTBn := W_hid hTBn
                replace hnwl := W_hid hnwl
                replace hcs3 := W_hid hcs3
                have hfjn2 : fj < 65536 := by omega
                clear hFn hlj hga hfj hmT hsT hfrom
                have hxa : Hid (∀ (w5 : World) (D5 : List Nat), DM w5 D5 g pg pb n (takeAll T (fs.take (j + 1))) (.slice a0 k cap0) (.slice a2 NT cap2) L (Tl ++ nw va Lv fs j) → ∀ o, (w5.alloc o).cell? ⟨g, 2, none⟩ = some (.slice a2 NT cap2)) := W_hid (fun w5 D5 hd o => (hd.box.alloc o).cell rfl)
                rw [hNT] at hDM hcc1 hNTl
                replace hNT := W_hid hNT
                go_wp2_with fail
                refine hT.out.mono ?_
                rintro e w4 ⟨rfl, q', rfl⟩
                clear y0
                have bel4 := W_hid (below_drewN (Below.refl wr.heap.size wr) q')
                have HD4 := hDM.out.keep bel4.out
                have c0 := HD4.c0
                have HD4 := W_hid HD4
                unfold ixI
                go_wp2_with fail
                refine (hAl.out _ HD4.out.rl).mono ?_
                rintro e w5 ⟨rfl, hR5, t5⟩
                have HD5 := HD4.out.pool hR5 t5
                have hnp : w.heap.size ≠ pg ∧ w.heap.size ≠ pb := ⟨fun e => hrb.out (e ▸ HD5.dp), fun e => hrb.out (e ▸ HD5.db)⟩
                have hM5 := (hM.out.keep bel4.out).two t5 hnp.1 hnp.2
                have hMv5 := W_hid (hMv.out.trans ((Mv.of bel4.out).trans (⟨But.two t5 HD5.dp HD5.db, fun x hx => .inl hx⟩ : Mv D2 D2 _ w5)))
                have y0 := hM5.cell (j := 0) rfl
                have xa := hxa.out w5 D2 HD5
                have ya : ∀ ob, (w5.alloc ob).cell? ⟨w.heap.size, 0, none⟩ = some (.int .u64 (va : Int)) := fun ob => (hM5.alloc ob).cell rfl
                have c2 := HD5.c2
                have hg2 : ¬ g = w.heap.size := fun e => hrb.out (e ▸ HD5.dg)
                have hg3 : ¬ w.heap.size = g := fun e => hg2 e.symm
                have hgl5 := HD5.box.lt
                have hml5 : w.heap.size < w5.heap.size := hM5.lt
                have hto5 : Hid ((w5.alloc (.cells #[.int .u64 (fj : Int), .int .i64 (t : Int), .int .u64 ((va : Int) - (mT : Int))] 105)).drew.ownsRow 0 105 3 (.slice a2 NT cap2) NT (tcl (Tl ++ nw va Lv fs j))) := by
                  have h1 := HD5.trow
                  rw [hNT.out] at h1
                  exact W_hid (h1.alloc _)
                have hsr5 : Hid (Own.Src (w5.alloc (.cells #[.int .u64 (fj : Int), .int .i64 (t : Int), .int .u64 ((va : Int) - (mT : Int))] 105)).drew 3 (.slice (some ⟨w5.heap.size, 0, none⟩) 1 1) 1 [.int .u64 (fj : Int), .int .i64 (t : Int), .int .u64 ((va : Int) - (mT : Int))]) := W_hid (src_own (World.ownsRow_lit (base := 0) (e := 105) (size := 3) w5 #[.int .u64 (fj : Int), .int .i64 (t : Int), .int .u64 ((va : Int) - (mT : Int))] 1 (Nat.zero_le _) (by decide) rfl))
                have hon5 : Hid (∀ u ∈ [Value.int .u64 (fj : Int), .int .i64 (t : Int), .int .u64 ((va : Int) - (mT : Int))], u.oneCell' = true) := W_hid (by rw [← hcs3.out]; exact tbc_one _)
                have hWa : Hid (Below w5.heap.size w5 (w5.alloc (.cells #[.int .u64 (fj : Int), .int .i64 (t : Int), .int .u64 ((va : Int) - (mT : Int))] 105)).drew) := W_hid (((Below.refl _ _).alloc (Nat.le_refl _) _).drew)
                have hbx5 := W_hid ((HD5.box.alloc (.cells #[.int .u64 (fj : Int), .int .i64 (t : Int), .int .u64 ((va : Int) - (mT : Int))] 105)))
                have hMx5 := W_hid ((hM5.alloc (.cells #[.int .u64 (fj : Int), .int .i64 (t : Int), .int .u64 ((va : Int) - (mT : Int))] 105)))
                have htd := W_hid (fun x hx => HD5.td x hx)
                replace HD5 := W_hid HD5
                replace hM5 := W_hid hM5
                clear hR5 t5 hnp c0 HD4
                go_wp2_with fail
                refine UpTo.region (S := (fun w' => w'.cell? ⟨g, 2, none⟩ = some (.slice a2 NT cap2) ∧ w'.cell? ⟨w.heap.size, 0, none⟩ = some (.int .u64 (va : Int)))) (m := 20) (by kernel_rfl) ⟨c2, y0⟩ (fun hHeld => ?_)
                refine UpTo.take (i := 0) (v := .pointer (some ⟨g, 0, none⟩)) rfl (by kernel_rfl) (by kernel_rfl) (by kernel_rfl) (by kernel_rfl) (fun _ _ _ h => h) (Or.inl ⟨by rfl, fun w0 ⟨s1, s2⟩ => ?_⟩) hHeld ?_
                · go_simp
                simp only [List.getElem_toArray, List.getElem_cons_zero, List.getElem_cons_succ, Act.put, List.setIfInBounds_toArray, List.set_cons_zero, List.set_cons_succ]
                refine UpTo.take (i := 1) (v := .pointer (some ⟨g, 0, none⟩)) rfl (by kernel_rfl) (by kernel_rfl) (by kernel_rfl) (by kernel_rfl) (fun _ _ _ h => h) (Or.inl ⟨by rfl, fun w0 ⟨s1, s2⟩ => ?_⟩) hHeld ?_
                · go_simp
                simp only [List.getElem_toArray, List.getElem_cons_zero, List.getElem_cons_succ, Act.put, List.setIfInBounds_toArray, List.set_cons_zero, List.set_cons_succ]
                refine UpTo.take (i := 2) (v := .pointer (some ⟨g, 0, none⟩)) rfl (by kernel_rfl) (by kernel_rfl) (by kernel_rfl) (by kernel_rfl) (fun _ _ _ h => h) (Or.inl ⟨by rfl, fun w0 ⟨s1, s2⟩ => ?_⟩) hHeld ?_
                · go_simp
                simp only [List.getElem_toArray, List.getElem_cons_zero, List.getElem_cons_succ, Act.put, List.setIfInBounds_toArray, List.set_cons_zero, List.set_cons_succ]
                refine UpTo.take (i := 3) (v := .pointer (some ⟨g, 2, none⟩)) rfl (by kernel_rfl) (by kernel_rfl) (by kernel_rfl) (by kernel_rfl) (fun _ _ _ h => h) (Or.inl ⟨by rfl, fun w0 ⟨s1, s2⟩ => ?_⟩) hHeld ?_
                · go_simp
                simp only [List.getElem_toArray, List.getElem_cons_zero, List.getElem_cons_succ, Act.put, List.setIfInBounds_toArray, List.set_cons_zero, List.set_cons_succ]
                refine UpTo.take (i := 4) (v := .slice a2 NT cap2) rfl (by kernel_rfl) (by kernel_rfl) (by kernel_rfl) (by kernel_rfl) (fun _ _ _ h => h) (Or.inl ⟨by rfl, fun w0 ⟨s1, s2⟩ => ?_⟩) hHeld ?_
                · go_simp
                simp only [List.getElem_toArray, List.getElem_cons_zero, List.getElem_cons_succ, Act.put, List.setIfInBounds_toArray, List.set_cons_zero, List.set_cons_succ]
                refine UpTo.take (i := 5) (v := .int .u64 (fj : Int)) rfl (by kernel_rfl) (by kernel_rfl) (by kernel_rfl) (by kernel_rfl) (fun _ _ _ h => h) (Or.inl ⟨by rfl, fun w0 ⟨s1, s2⟩ => ?_⟩) hHeld ?_
                · go_simp
                simp only [List.getElem_toArray, List.getElem_cons_zero, List.getElem_cons_succ, Act.put, List.setIfInBounds_toArray, List.set_cons_zero, List.set_cons_succ]
                refine UpTo.take (i := 6) (v := .int .i64 (t : Int)) rfl (by kernel_rfl) (by kernel_rfl) (by kernel_rfl) (by kernel_rfl) (fun _ _ _ h => h) (Or.inl ⟨by rfl, fun w0 ⟨s1, s2⟩ => ?_⟩) hHeld ?_
                · go_simp
                simp only [List.getElem_toArray, List.getElem_cons_zero, List.getElem_cons_succ, Act.put, List.setIfInBounds_toArray, List.set_cons_zero, List.set_cons_succ]
                refine UpTo.take (i := 7) (v := .pointer (some ⟨w.heap.size, 0, none⟩)) rfl (by kernel_rfl) (by kernel_rfl) (by kernel_rfl) (by kernel_rfl) (fun _ _ _ h => h) (Or.inl ⟨by rfl, fun w0 ⟨s1, s2⟩ => ?_⟩) hHeld ?_
                · go_simp
                simp only [List.getElem_toArray, List.getElem_cons_zero, List.getElem_cons_succ, Act.put, List.setIfInBounds_toArray, List.set_cons_zero, List.set_cons_succ]
                refine UpTo.take (i := 8) (v := .int .u64 (va : Int)) rfl (by kernel_rfl) (by kernel_rfl) (by kernel_rfl) (by kernel_rfl) (fun _ _ _ h => h) (Or.inl ⟨by rfl, fun w0 ⟨s1, s2⟩ => ?_⟩) hHeld ?_
                · go_simp
                simp only [List.getElem_toArray, List.getElem_cons_zero, List.getElem_cons_succ, Act.put, List.setIfInBounds_toArray, List.set_cons_zero, List.set_cons_succ]
                refine UpTo.take (i := 9) (v := .pointer (some ⟨w.heap.size, 0, none⟩)) rfl (by kernel_rfl) (by kernel_rfl) (by kernel_rfl) (by kernel_rfl) (fun _ _ _ h => h) (Or.inl ⟨by rfl, fun w0 ⟨s1, s2⟩ => ?_⟩) hHeld ?_
                · go_simp
                simp only [List.getElem_toArray, List.getElem_cons_zero, List.getElem_cons_succ, Act.put, List.setIfInBounds_toArray, List.set_cons_zero, List.set_cons_succ]
                refine UpTo.take (i := 10) (v := .int .u64 (va : Int)) rfl (by kernel_rfl) (by kernel_rfl) (by kernel_rfl) (by kernel_rfl) (fun _ _ _ h => h) (Or.inl ⟨by rfl, fun w0 ⟨s1, s2⟩ => ?_⟩) hHeld ?_
                · go_simp
                simp only [List.getElem_toArray, List.getElem_cons_zero, List.getElem_cons_succ, Act.put, List.setIfInBounds_toArray, List.set_cons_zero, List.set_cons_succ]
                refine UpTo.take (i := 11) (v := .int .i64 (t : Int)) rfl (by kernel_rfl) (by kernel_rfl) (by kernel_rfl) (by kernel_rfl) (fun _ _ _ h => h) (Or.inl ⟨by rfl, fun w0 ⟨s1, s2⟩ => ?_⟩) hHeld ?_
                · go_simp
                simp only [List.getElem_toArray, List.getElem_cons_zero, List.getElem_cons_succ, Act.put, List.setIfInBounds_toArray, List.set_cons_zero, List.set_cons_succ]
                refine UpTo.one (i := 12) (by kernel_rfl) rfl rfl (fun K hK => ?_)
                go_simp
                refine (hSpn.out _).mono ?_
                rintro e w6 ⟨rfl, rfl⟩
                refine hK.out _ _ hHeld ?_
                try simp only [List.getElem_toArray, List.getElem_cons_zero, List.getElem_cons_succ, Act.put, List.setIfInBounds_toArray, List.set_cons_zero, List.set_cons_succ]
                refine UpTo.take (i := 13) (v := .int .u64 (mT : Int)) rfl (by kernel_rfl) (by kernel_rfl) (by kernel_rfl) (by kernel_rfl) (fun _ _ _ h => h) (Or.inl ⟨by rfl, fun w0 ⟨s1, s2⟩ => ?_⟩) hHeld ?_
                · go_simp
                simp only [List.getElem_toArray, List.getElem_cons_zero, List.getElem_cons_succ, Act.put, List.setIfInBounds_toArray, List.set_cons_zero, List.set_cons_succ]
                refine UpTo.take (i := 14) (v := .int .u64 ((va : Int) - (mT : Int))) rfl (by kernel_rfl) (by kernel_rfl) (by kernel_rfl) (by kernel_rfl) (fun _ _ _ h => h) (Or.inl ⟨by rfl, fun w0 ⟨s1, s2⟩ => ?_⟩) hHeld ?_
                · go_simp
                simp only [List.getElem_toArray, List.getElem_cons_zero, List.getElem_cons_succ, Act.put, List.setIfInBounds_toArray, List.set_cons_zero, List.set_cons_succ]
                refine UpTo.take (i := 15) (v := .agg #[.int .u64 (fj : Int), .int .i64 (t : Int), .int .u64 ((va : Int) - (mT : Int))]) rfl (by kernel_rfl) (by kernel_rfl) (by kernel_rfl) (by kernel_rfl) (fun _ _ _ h => h) (Or.inl ⟨by rfl, fun w0 ⟨s1, s2⟩ => ?_⟩) hHeld ?_
                · go_simp
                simp only [List.getElem_toArray, List.getElem_cons_zero, List.getElem_cons_succ, Act.put, List.setIfInBounds_toArray, List.set_cons_zero, List.set_cons_succ]
                clear K hK
                refine UpTo.one (i := 16) (by kernel_rfl) rfl rfl (fun K hK => ?_)
                go_simp
                refine hK.out _ _ ⟨xa _, ya _⟩ ?_
                try simp only [List.getElem_toArray, List.getElem_cons_zero, List.getElem_cons_succ, Act.put, List.setIfInBounds_toArray, List.set_cons_zero, List.set_cons_succ]
                clear K hK
                refine UpTo.one (i := 17) (by kernel_rfl) rfl rfl (fun K hK => ?_)
                refine Own.step_app rfl (.tmp 120) (.tmp 132) 71 rfl Tryz.underlying71 info_tab (.slice a2 NT cap2) (.slice (some ⟨w5.heap.size, 0, none⟩) 1 1) rfl rfl hto5.out (Nat.zero_le _) hsr5.out hon5.out (by unfold maxLen; omega) (by omega) ?_
                intro v8 w8 ho8 hg8 hob8
                obtain ⟨a8, c8, rfl⟩ := Own.form ho8
                have hbx8 := hbx5.out.grown (Own.undrew hg8) (fun e => (htd.out g e.symm).2.1 rfl)
                have hMx8 := hMx5.out.grown (Own.undrew hg8) (fun e => hrb.out (htd.out _ e.symm).1)
                have hfin8 := W_hid (DM.addT (x := (fj, t, va - mT)) HD5.out hWa.out (by
                  rw [hNT.out, show tcl ((Tl ++ nw va Lv fs j) ++ [(fj, t, va - mT)]) = tcl (Tl ++ nw va Lv fs j) ++ [.int .u64 (fj : Int), .int .i64 (t : Int), .int .u64 ((va : Int) - (mT : Int))] from by rw [← hcs3.out]; exact List.flatMap_append]
                  exact ho8) hg8 hob8 ⟨hfjn2, by show 1 ≤ t; omega, by show t ≤ 4; omega, by show va - mT < _; omega⟩)
                have hM8 := W_hid hMx8
                clear ho8 hg8 hob8
                have x8 := hbx8.cell (j := 2) rfl
                have f8 := hbx8.fz
                have y8 := hMx8.cell (j := 0) rfl
                refine hK.out _ _ ⟨x8, y8⟩ ?_
                try simp only [List.getElem_toArray, List.getElem_cons_zero, List.getElem_cons_succ, Act.put, List.setIfInBounds_toArray, List.set_cons_zero, List.set_cons_succ]
                clear K hK
                refine UpTo.one (i := 18) (by kernel_rfl) rfl rfl (fun K hK => ?_)
                go_simp
                refine hK.out _ _ ⟨x8, y8⟩ ?_
                try simp only [List.getElem_toArray, List.getElem_cons_zero, List.getElem_cons_succ, Act.put, List.setIfInBounds_toArray, List.set_cons_zero, List.set_cons_succ]
                clear K hK
                refine UpTo.one (i := 19) (by kernel_rfl) rfl rfl (fun K hK => ?_)
                go_simp
                refine hK.out _ _ ⟨x8, y8⟩ ?_
                try simp only [List.getElem_toArray, List.getElem_cons_zero, List.getElem_cons_succ, Act.put, List.setIfInBounds_toArray, List.set_cons_zero, List.set_cons_succ]
                clear K hK
                refine UpTo.last (by kernel_rfl) rfl rfl (by kernel_rfl) ?_
                go_simp
                obtain ⟨D8, hD8, hMv8⟩ := hfin8.out
                rw [← hnwl.out] at hD8
                replace hD8 := W_hid hD8
                have hB8 := W_hid (hM8.out.far (p := ⟨g, 2, none⟩) hg3 (.slice a8 (NT + 1) c8))
                have hrb8 := W_hid (hMv8.notin hrb.out hml5)
                replace hMv8 := W_hid (hMv5.out.trans hMv8)
                clear x8 f8 y8 hfin8 xa ya c2 y0
                go_wp2_with fail
                go_roundw
                case rel => exact ⟨t - 1, j + 1, D8, _, by omega, by omega, by congr 1; omega, by go_num, by omega, by omega, hD8, hTBn, hMv8, hB8, hrb8⟩
                case measure => simp [intOf]; omega
              · obtain rfl : j = fs.length := by omega
                have hfull : c = 24 ∧ FR.NoLow (takeAll T fs) n 1 ∧ F' = F ∧ G' = G ∧ T' = T := by
                  rcases hcs.out with h | h
                  · exact ⟨h.1, h.2.2⟩
                  · exfalso; omega
                obtain ⟨rfl, hnol, rfl, rfl, rfl⟩ := hfull
                clear hj2 hjt
                have hAl := W_hid (fun w h => rAlloc_any pg pb n _ _ 1 0 24 w h (gets_none hnol))
                rw [List.take_length] at hDM
                have hDM0 := hDM
                rw [hNT] at hDM hcc1 hNTl
                replace hNT := W_hid hNT
                go_wp2_with fail
                refine hT.out.mono ?_
                rintro e w4 ⟨rfl, q', rfl⟩
                clear y0
                have bel4 := W_hid (below_drewN (Below.refl wr.heap.size wr) q')
                have HD4 := hDM0.out.keep bel4.out
                have c0 := HD4.c0
                have HD4 := W_hid HD4
                unfold ixI
                go_wp2_with fail
                refine (hAl.out _ HD4.out.rl).mono ?_
                rintro e w5 ⟨rfl, hR5, t5⟩
                have HD5 := W_hid (HD4.out.pool hR5 t5)
                have hMv5 := W_hid (hMv.out.trans ((Mv.of bel4.out).trans (⟨But.two t5 HD5.out.dp HD5.out.db, fun x hx => .inl hx⟩ : Mv D2 D2 _ w5)))
                clear hR5 t5 c0 HD4 hDM hDM0 hM
                go_wp2_with fail
                go_loopw [10] (fun la wr2 => ∃ (j2 : Nat) (D3 : List Nat) (tv3 : Value), j2 ≤ fs.length ∧ la = .int .i64 (j2 : Int) ∧ Hid (DM wr2 D3 g pg pb n (takeAll T' (fs.take j2)) (.slice a0 k cap0) tv3 L (Tl ++ nw va Lv fs j2)) ∧ Hid (Mv D D3 w wr2)) (fun la _ => (intOf la).toNat)
                case atStart =>
                  refine ⟨fs.length, D2, .slice a2 (Tl ++ nw va Lv fs fs.length).length cap2, Nat.le_refl _, rfl, ?_, hMv5⟩
                  rw [List.take_length]
                  exact HD5
                case round =>
                  clear HD5 hMv5
                  obtain ⟨j2, D3, tv3, hj2, rfl, hD3, hMv3⟩ := hrel
                  by_cases hj0 : 0 < j2
                  · obtain ⟨m2, rfl⟩ : ∃ m2, j2 = m2 + 1 := ⟨j2 - 1, by omega⟩
                    obtain ⟨hu1, hu2, hu3⟩ := take_undo hts.out m2 (by omega)
                    rw [nw_succ, ← List.append_assoc] at hD3
                    obtain ⟨Q, hQ⟩ : ∃ Q, Q = Tl ++ nw va Lv fs m2 := ⟨_, rfl⟩
                    obtain ⟨x, hx⟩ : ∃ x : RX.Tb, x = (fs.getD m2 0, Lv - 1 - m2, va / EN.sz (Lv - 1 - m2) * EN.sz (Lv - 1 - m2)) := ⟨_, rfl⟩
                    rw [← hQ, ← hx] at hD3
                    have hQl : Q.length ≤ 99000 := by rw [hQ, List.length_append, nw_len]; have := hkeep.out.2.2.2.1; omega
                    have hel : ∀ h, (Q ++ [x])[Q.length]'h = (fs.getD m2 0, Lv - 1 - m2, va / EN.sz (Lv - 1 - m2) * EN.sz (Lv - 1 - m2)) := fun h => by
                      rw [List.getElem_append_right (Nat.le_refl _)]
                      simp only [Nat.sub_self, List.getElem_singleton]
                      exact hx
                    have hDr := W_hid (drop_any D3 g pg pb n _ _ tv3 L (Q ++ [x]) wr hD3.out Q.length (fs.getD m2 0) (Lv - 1 - m2) _ (by rw [List.length_append, List.length_singleton]; omega) (hel _) hu3 hu2 (by rw [List.length_append, List.length_singleton]; omega))
                    clear hel
                    rw [hu1, RX.cutAt_last] at hDr
                    have c2 := hD3.out.c2
                    obtain ⟨-, a3, cap3, rfl, hcd1, hcd2⟩ := hD3.out.lens
                    rw [List.length_append, List.length_singleton] at c2 hcd1
                    replace hQ := W_hid hQ
                    generalize hQL : Q.length = NQ at *
                    have hNQ2 : (NQ : Int) ≤ 99000 := by omega
                    clear hu1 hu2 hu3 hx hj0 hQL
                    go_wp2_with fail
                    refine hDr.out.mono ?_
                    rintro e w7 ⟨rfl, D4, tv4, hd4, hm4⟩
                    rw [hQ.out] at hd4
                    have hd4 := W_hid hd4
                    have hm4 := W_hid (hMv3.out.trans hm4)
                    clear c2
                    go_wp2_with fail
                    go_roundw
                    case rel => exact ⟨m2, D4, tv4, by omega, by go_num, hd4, hm4⟩
                    case measure => simp [intOf]
                  · obtain rfl : j2 = 0 := by omega
                    rw [List.take_zero, take_nil, show nw va Lv fs 0 = [] from rfl, List.append_nil] at hD3
                    go_wp2_with fail
                    go_ret
                    exact ⟨rfl, D3, _, tv3, L, Tl, hD3.out, hkeep.out.1, hkeep.out.2.1, by omega, by omega, hMv3.out⟩
          · have hjf : j = fs.length := by rcases hjt with h | h <;> omega
            have hdone : c = 0 ∧ F' = RX.addT F va Lv fs ∧ G' = RX.updG G l (va / EN.sz (l - 1)) (some (f, p)) ∧ T' = takeAll T fs := by
              rcases hcs.out with h | h
              · exfalso; rcases hjt with h' | h' <;> omega
              · exact ⟨h.1, h.2.2⟩
            obtain ⟨rfl, rfl, rfl, rfl⟩ := hdone
            subst hjf
            rw [List.take_length] at hDM hTB
            obtain ⟨Tq, hTq⟩ : ∃ Tq, Tq = takeAll T fs := ⟨_, rfl⟩
            rw [← hTq] at hDM
            replace hTq := W_hid hTq
            obtain ⟨Tlq, hTlq⟩ : ∃ Tlq, Tlq = Tl ++ nw va Lv fs fs.length := ⟨_, rfl⟩
            rw [← hTlq] at hDM hTB
            have hTlen : Hid (Tlq.length ≤ Tl.length + 3) := W_hid (by rw [hTlq, List.length_append, nw_len]; omega)
            replace hTlq := W_hid hTlq
            have c1 := hDM.out.c1
            have hlo1 := hDM.out.lo
            rw [hN.out] at hlo1
            have ha0 : a0 = none ∨ ∃ b o, a0 = some ⟨b, o, none⟩ := by
              rcases hlo1.2 with ⟨h1, _⟩ | ⟨g', cap', cur, h1, _⟩
              · simp only [Value.slice.injEq] at h1; exact .inl h1.1
              · simp only [Value.slice.injEq] at h1; exact .inr ⟨_, _, h1.1⟩
            obtain ⟨X, hmk, hmo⟩ := Own.make_room Tryz.underlying47 info_pg (k + 1) ((k : Int) + 1) rfl (by omega) (by omega)
            have hrhi := run_hi Tryz.underlying47 elem_pg info_pg a0 k cap0 q hqk hc1 ha0
            obtain ⟨a9, hrlo, hS9, hb9⟩ := cut_lo Tryz.underlying47 elem_pg info_pg hlo1 rfl hc1 q hqk
            have hS8 := src_take hlo1 rfl q hqk
            have hwk : IntKind.i64.wrap ((k : Int) + 1) = (k : Int) + 1 := IntWalk.i64_in _ (by omega)
            have xk2 : (q : Int) ≤ k := by omega
            have A1 : Hid ((wr.alloc X).drew.ownsRow wr.heap.size 38 4 (.slice (some ⟨wr.heap.size, 0, none⟩) 0 (k + 1)) 0 []) := W_hid (hmo wr wr.heap.size (Nat.le_refl _))
            have S1 := W_hid (hS8.keep (((Below.refl wr.heap.size wr).alloc (Nat.le_refl _) X).drew))
            have B1 : Hid (Below wr.heap.size wr (wr.alloc X).drew) := W_hid (((Below.refl wr.heap.size wr).alloc (Nat.le_refl _) X).drew)
            have hone1 : Hid (∀ u ∈ (pcl L).take (q * 4), u.oneCell' = true) := W_hid (fun u hu => pgc_one L u (List.mem_of_mem_take hu))
            have hone2 : Hid (∀ u ∈ (pcl L).drop (q * 4), u.oneCell' = true) := W_hid (fun u hu => pgc_one L u (List.mem_of_mem_drop hu))
            have hone3 : Hid (∀ u ∈ [Value.int .u64 (va : Int), .int .u64 (f : Int), .int .i64 p, .bool h], u.oneCell' = true) := W_hid (pgc_one [(va, f, p, h)])
            have S9 := W_hid hS9
            have hgl := W_hid hDM.out.box.lt
            clear y0 hlo1 hS8 hS9 hb9 hmo
            go_wp2_with fail
            go_region_held3 (fun w' => w'.cell? ⟨g, 1, none⟩ = some (.slice a0 k cap0)) (first | assumption | go_keep)
              (first | (refine Own.step_app rfl (.tmp 144) (.tmp 150) 47 rfl Tryz.underlying47 info_pg (.slice (some ⟨wr.heap.size, 0, none⟩) 0 (k + 1)) (.slice a0 q cap0) rfl rfl A1.out B1.out.size S1.out hone1.out (by unfold maxLen; omega) (by omega) ?_
                        intro v2 w2 ho2 hg2 hob2
                        have A2 := W_hid ho2
                        have B2 := W_hid (B1.out.grown hg2 B1.out.size (fun x hx => Own.ge A1.out x hx))
                        have x2 : w2.cell? ⟨g, 1, none⟩ = some (.slice a0 k cap0) := (hDM.out.keep B2.out).c1
                        clear ho2 hg2 hob2))
            have hM2 := hM.out.keep B2.out
            have m0 := hM2.cell (j := 0) rfl
            have m1 := hM2.cell (j := 1) rfl
            have m2 := hM2.cell (j := 2) rfl
            have m3 := hM2.cell (j := 3) rfl
            have A3 := W_hid (A2.out.alloc (.cells #[.int .u64 (va : Int), .int .u64 (f : Int), .int .i64 p, .bool h] 38))
            have B3 := W_hid (B2.out.alloc B2.out.size (.cells #[.int .u64 (va : Int), .int .u64 (f : Int), .int .i64 p, .bool h] 38))
            have S3 := W_hid (src_own (World.ownsRow_lit (base := 0) (e := 38) (size := 4) w2 #[.int .u64 (va : Int), .int .u64 (f : Int), .int .i64 p, .bool h] 1 (Nat.zero_le _) (by decide) rfl))
            have hD2 := W_hid hDM
            clear hM2
            obtain ⟨a22, c22, rfl⟩ := Own.form A2.out
            go_upto_region 31 with (refine Own.wpList_app rfl (.tmp 152) (.tmp 154) 47 rfl Tryz.underlying47 info_pg _ _ rfl rfl A3.out B3.out.size S3.out hone3.out (by unfold maxLen; omega) (by omega) ?_; intro v4 w4 ho4 hg4 hob4; have A4 := W_hid ho4; have B4 := W_hid (B3.out.grown hg4 B3.out.size (fun x hx => Own.ge A3.out x hx)); have x4 : w4.cell? ⟨g, 1, none⟩ = some (.slice a0 k cap0) := (hDM.out.keep B4.out).c1; clear ho4 hg4 hob4)
            clear m0 m1 m2 m3 x2 c1
            have S4 := W_hid (S9.out.keep B4.out)
            obtain ⟨a44, c44, rfl⟩ := Own.form A4.out
            go_wp2_with (refine Own.wpList_app rfl (.tmp 157) (.tmp 163) 47 rfl Tryz.underlying47 info_pg _ _ rfl rfl A4.out B4.out.size S4.out hone2.out (by unfold maxLen; omega) (by omega) ?_; intro v5 w5 ho5 hg5 hob5; obtain ⟨a55, c55, rfl⟩ := Own.form ho5; have A5 := W_hid ho5; have B5 := W_hid (B4.out.grown hg5 B4.out.size (fun x hx => Own.ge A4.out x hx)); have bx5 := hDM.out.box.keep B5.out; have x5 := bx5.cell (j := 1) rfl; have f5 := bx5.fz; clear ho5 hg5 hob5 bx5)
            go_ret
            have e9 : 0 + q + 1 + (k - q) = k + 1 := by omega
            have hll := hl.out
            obtain ⟨hPk, hBk, hIk, hTk, hSk, hmk0, hfk, hvk⟩ := hkeep.out
            rw [← hll] at hmk0
            have hcv : va / EN.sz (l - 1) * EN.sz (l - 1) = va := by have := RX.sub_mod va (EN.sz (l - 1)); omega
            have hdl : decide (l = 2) = h := by rw [hll]; exact lv_dec h
            have hGl := hGn.out
            rw [← hll] at hGl
            have hq2 : q ≤ L.length := by rw [hN.out]; exact hqk
            have hPB9 := RX.PB.ins hPk (k := l) (c := va / EN.sz (l - 1)) (f := f) (p := p) (at_ := q) ⟨hl1, hl2⟩ hGl hq2 (fun x hx h1 => by rw [hcv]; exact hlo.out x hx h1) (fun x hx h1 => by rw [hcv]; exact hhi.out x hx h1 (by rw [← hN.out]; exact hx))
            rw [hcv, hdl] at hPB9
            have hL9 : (L.take q ++ (va, f, p, h) :: L.drop q).length = k + 1 := by
              rw [List.length_append, List.length_cons, List.length_take, List.length_drop, hN.out]; omega
            have hc9 : pcl (L.take q ++ (va, f, p, h) :: L.drop q) = [] ++ (pcl L).take (q * 4) ++ [Value.int .u64 (va : Int), .int .u64 (f : Int), .int .i64 p, .bool h] ++ (pcl L).drop (q * 4) := by
              unfold pcl
              rw [flat_take pgc 4 pgc_len, flat_drop pgc 4 pgc_len, List.flatMap_append, List.flatMap_cons, List.nil_append, List.append_assoc]
              rfl
            have A6 := A5.out
            rw [e9, ← hc9, ← hL9] at A6
            obtain ⟨D9, hD9, hM9⟩ := hDM.out.newL B5.out A6 (fun x hx => by
              rcases List.mem_append.1 hx with hx | hx
              · exact hDM.out.llt x (List.mem_of_mem_take hx)
              · rcases List.mem_cons.1 hx with rfl | hx
                · exact ⟨hvk, hfk⟩
                · exact hDM.out.llt x (List.mem_of_mem_drop hx))
            have hTB9 := hTB.out
            rw [hL9] at hD9 hM9
            have e8 : q + 1 + (k - q) = k + 1 := by omega
            try rw [e8]
            try rw [e9]
            exact ⟨rfl, D9, _, tv2, _, Tlq, by rw [hTq.out] at hD9; exact hD9, hPB9, hTB9, by rw [hL9, hN.out]; omega, hTlen.out, hMv.out.trans hM9⟩
end Go.Proofs.YtigbjhmodpplbaaGreatDoor

/- The document's own tree: Tables. -/
namespace Go.Proofs.YtigbjhmodpplbaaGreatDoor
theorem iu64 : Own.Info Tryz.prog 23 (.int .u64 0) 1 8 := Own.info_of (by kernel_rfl) rfl (by decide)
open Go.ChangeShapes Go.WideShapes Go.ChangeAt Go.RowKit
set_option linter.unusedVariables false
set_option linter.unusedSimpArgs false

def fcl (l : List Nat) : List Value := l.map (fun f : Nat => Value.int .u64 (f : Int))
theorem fcl_one (l : List Nat) : ∀ u ∈ fcl l, u.oneCell' = true := by
  intro u hu
  obtain ⟨x, -, rfl⟩ := List.mem_map.1 hu
  rfl
theorem elem_u64 : Tryz.prog.elem 41 = 23 := by kernel_rfl

theorem up_eq : ∀ {a b : List Nat}, a.Pairwise (· < ·) → b.Pairwise (· < ·) → (∀ x, x ∈ a ↔ x ∈ b) → a = b
  | [], [], _, _, _ => rfl
  | [], y :: b, _, _, h => absurd ((h y).2 List.mem_cons_self) (by simp)
  | x :: a, [], _, _, h => absurd ((h x).1 List.mem_cons_self) (by simp)
  | x :: a, y :: b, ha, hb, h => by
    obtain ⟨ha1, ha2⟩ := List.pairwise_cons.1 ha
    obtain ⟨hb1, hb2⟩ := List.pairwise_cons.1 hb
    have e : x = y := by
      rcases List.mem_cons.1 ((h x).1 List.mem_cons_self) with e | e
      · exact e
      · rcases List.mem_cons.1 ((h y).2 List.mem_cons_self) with e2 | e2
        · exact e2.symm
        · have := hb1 x e; have := ha1 y e2; omega
    subst e
    rw [up_eq ha2 hb2 fun z => ⟨fun hz => by
      rcases List.mem_cons.1 ((h z).1 (List.mem_cons_of_mem _ hz)) with e | e
      · have := ha1 z hz; omega
      · exact e, fun hz => by
      rcases List.mem_cons.1 ((h z).2 (List.mem_cons_of_mem _ hz)) with e | e
      · have := hb1 z hz; omega
      · exact e⟩]

theorem ins_up {O : List Nat} {x q : Nat} (hp : O.Pairwise (· < ·)) (hq : q ≤ O.length) (hx : x ∉ O) (hlo : ∀ (j : Nat) (hj : j < O.length), j < q → O[j] < x) (hhi : ∀ (h : q < O.length), ¬ O[q] < x) : (O.take q ++ x :: O.drop q).Pairwise (· < ·) := by
  have hgt : ∀ y ∈ O.drop q, x < y := fun y hy => by
    obtain ⟨j, hj, rfl⟩ := List.getElem_of_mem hy
    rw [List.length_drop] at hj
    rw [List.getElem_drop]
    have h1 := hhi (by omega)
    have h2 : O[q]'(by omega) ≤ O[q + j]'(by omega) := by
      rcases Nat.eq_zero_or_pos j with h0 | h0
      · subst h0; exact Nat.le_refl _
      · exact Nat.le_of_lt (List.pairwise_iff_getElem.1 hp q (q + j) (by omega) (by omega) (by omega))
    have h3 : O[q + j]'(by omega) ≠ x := fun e => hx (e ▸ List.getElem_mem _)
    omega
  have hls : ∀ y ∈ O.take q, y < x := fun y hy => by
    obtain ⟨j, hj, rfl⟩ := List.getElem_of_mem hy
    rw [List.length_take] at hj
    rw [List.getElem_take]
    exact hlo j (by omega) (by omega)
  refine List.pairwise_append.2 ⟨hp.sublist (List.take_sublist _ _), List.pairwise_cons.2 ⟨hgt, hp.sublist (List.drop_sublist _ _)⟩, fun a ha b hb => ?_⟩
  rcases List.mem_cons.1 hb with rfl | hb
  · exact hls a ha
  · exact Nat.lt_trans (hls a ha) (hgt b hb)
theorem ins_mem {O : List Nat} {x q f : Nat} : f ∈ O.take q ++ x :: O.drop q ↔ f ∈ O ∨ f = x := by
  have : f ∈ O ↔ f ∈ O.take q ∨ f ∈ O.drop q := by rw [← List.mem_append, List.take_append_drop]
  rw [this, List.mem_append, List.mem_cons]
  constructor
  · rintro (h | h | h)
    · exact .inl (.inl h)
    · exact .inr h
    · exact .inl (.inr h)
  · rintro ((h | h) | h)
    · exact .inl h
    · exact .inr (.inr h)
    · exact .inr (.inl h)

/-- The frames of the first tables, in order. -/
structure Up (Tl : List RX.Tb) (k : Nat) (O : List Nat) : Prop where
  rise : O.Pairwise (· < ·)
  mem : ∀ f, f ∈ O ↔ f ∈ (Tl.take k).map (·.1)
  len : O.length = k
theorem Up.zero (Tl : List RX.Tb) : Up Tl 0 [] := ⟨List.Pairwise.nil, fun f => by simp, rfl⟩
theorem Up.step {Tl : List RX.Tb} {k : Nat} {O : List Nat} (h : Up Tl k O) (hk : k < Tl.length) (hnd : (Tl.map (·.1)).Nodup) {q : Nat} (hq : q ≤ k) (hlo : ∀ (j : Nat) (hj : j < O.length), j < q → O[j] < Tl[k].1) (hhi : ∀ (hh : q < O.length), ¬ O[q] < Tl[k].1) : Up Tl (k + 1) (O.take q ++ Tl[k].1 :: O.drop q) := by
  have hl := h.len
  refine ⟨ins_up h.rise (by omega) ?_ hlo hhi, fun f => ?_, ?_⟩
  · rw [h.mem]
    intro hx
    have e : Tl = Tl.take k ++ Tl[k] :: Tl.drop (k + 1) := by rw [← List.drop_eq_getElem_cons hk, List.take_append_drop]
    rw [e, List.map_append, List.map_cons, List.nodup_append] at hnd
    exact hnd.2.2 _ hx _ List.mem_cons_self rfl
  · rw [ins_mem, h.mem, List.take_add_one, List.getElem?_eq_getElem hk, List.map_append, List.mem_append]
    simp
  · rw [List.length_append, List.length_cons, List.length_take, List.length_drop]
    omega

set_option maxRecDepth 100000 in
set_option maxHeartbeats 8000000 in
theorem rTables_any (D : List Nat) (g pg pb n : Nat) (T : Nat → Bool) (lv tv : Value) (L : List RX.Pg) (Tl : List RX.Tb) (w : World) (h : DM w D g pg pb n T lv tv L Tl) (hnd : (Tl.map (·.1)).Nodup) (hlen : Tl.length ≤ 100000) :
    Calls Tryz.prog 16 #[.pointer (some ⟨g, 0, none⟩)] w fun e w' => ∃ (v : Value) (O : List Nat), e = .returned v ∧ Up Tl Tl.length O ∧ w'.ownsRow w.heap.size 23 1 v O.length (fcl O) ∧ Below w.heap.size w w' := by
  obtain ⟨-, a0, cap0, htv, hc1, hc2⟩ := h.lens
  unfold maxLen at hc2
  have H := W_hid h
  subst htv
  replace hnd := W_hid hnd
  obtain ⟨N, hN⟩ : ∃ N, Tl.length = N := ⟨_, rfl⟩
  have hN' := W_hid hN
  rw [hN] at hc1 hlen
  have hNi : (N : Int) ≤ 100000 := by omega
  clear h
  go_enter Tryz.func16, Tryz.ntmps16
  go_wp2_with fail
  go_loopw [3, 4] (fun o i wr => ∃ (k : Nat) (O : List Nat) (a : Option Addr) (c : Nat), k ≤ N ∧ i = .int .i64 (k : Int) ∧ o = .slice a k c ∧ k ≤ c ∧ Hid (Up Tl k O) ∧ Hid (wr.ownsRow w.heap.size 23 1 (.slice a k c) k (fcl O)) ∧ Hid (Below w.heap.size w wr)) (fun _ i _ => N - (intOf i).toNat)
  case atStart => exact ⟨0, [], none, 0, by omega, rfl, rfl, by omega, W_hid (Up.zero Tl), W_hid ⟨rfl, .inl ⟨rfl, rfl⟩⟩, W_hid (Below.refl _ _)⟩
  case round =>
    obtain ⟨k, O, a, c, hk, rfl, rfl, hkc, hU, hR, hB⟩ := hrel
    have hD := H.out.keep hB.out
    have c2 := hD.c2
    rw [hN] at c2
    by_cases hlt : k < N
    · have hk' : k < Tl.length := by rw [hN]; exact hlt
      obtain ⟨x, hx⟩ : ∃ x, Tl[k].1 = x := ⟨_, rfl⟩
      have hki : (k : Int) < N := by omega
      have hst := W_hid (fun q hq hlo hhi => @Up.step Tl k O hU.out hk' hnd.out q hq hlo hhi)
      rw [hx] at hst
      have hOl := W_hid hU.out.len
      replace hx : Hid (∃ h : k < Tl.length, Tl[k].1 = x) := W_hid ⟨hk', hx⟩
      clear hD hk' hU
      go_wp2_with fail
      go_loopw [5] (fun at_ wr2 => ∃ q : Nat, q ≤ k ∧ at_ = .int .i64 (q : Int) ∧ Hid (∀ (j : Nat) (hj : j < O.length), j < q → O[j] < x) ∧ Hid (wr2.ownsRow w.heap.size 23 1 (.slice a k c) k (fcl O)) ∧ Hid (Below w.heap.size w wr2)) (fun at_ _ => k - (intOf at_).toNat)
      case atStart => exact ⟨0, by omega, rfl, W_hid (fun j hj h => by omega), hR, hB⟩
      case round =>
        clear c2 hR hB
        obtain ⟨q, hq, rfl, hlo, hR, hB⟩ := hrel
        have hD := H.out.keep hB.out
        have c2 := hD.c2
        rw [hN] at c2
        obtain ⟨hkT, hx⟩ := hx.out
        obtain ⟨b, o, cap, e0, -, -, t0, -, -, l0, -⟩ := hD.tab hkT
        rw [hN] at e0
        simp only [Value.slice.injEq] at e0
        obtain ⟨rfl, -, rfl⟩ := e0
        rw [hx] at t0 l0
        replace hx := W_hid (⟨hkT, hx⟩ : ∃ h : k < Tl.length, Tl[k].1 = x)
        replace hN := W_hid hN
        clear hD hkT
        have hqk := hq
        have S0 := hR.out
        by_cases hgo : q < k ∧ O.getD q 0 < x
        · obtain ⟨h1, h2⟩ := hgo
          obtain ⟨b2, o2, c3, e1, -, -, -, -, hcl, -⟩ := own_cells S0 (by omega)
          simp only [Value.slice.injEq] at e1
          obtain ⟨rfl, -, rfl⟩ := e1
          have hqO : q < O.length := by rw [hOl.out]; exact h1
          have e2 : O.getD q 0 = O[q] := by rw [List.getD_eq_getElem?_getD, List.getElem?_eq_getElem hqO]; rfl
          rw [e2] at h2
          have t3 : wr.cell? ⟨b2, o2 + q, none⟩ = some (.int .u64 ((O[q] : Nat) : Int)) := hcl q _ (by unfold fcl; rw [List.getElem?_map, List.getElem?_eq_getElem hqO]; rfl)
          have hlo2 : Hid (∀ (j : Nat) (hj : j < O.length), j < q + 1 → O[j] < x) := W_hid (fun j hj h => by
            by_cases e : j = q
            · subst e; exact h2
            · exact hlo.out j hj (by omega))
          obtain ⟨y, hy⟩ : ∃ y, O[q] = y := ⟨_, rfl⟩
          rw [hy] at t3 h2
          have d1 : decide ((y : Int) < (x : Int)) = true := by simp; omega
          have d0 : (q : Int) < k := by omega
          clear hcl e2 hy hqO S0 hlo
          go_wp2_with fail
          go_quiet (fail)
          have hR2 := W_hid (Own.below hR.out (below_drewN (Below.refl _ _) nq))
          have hB2 := W_hid (below_drewN hB.out nq)
          clear hR hB c2 t0 t3
          go_wp2_with fail
          go_roundw
          case rel => exact ⟨q + 1, by omega, by go_num, hlo2, hR2, hB2⟩
          case measure => simp [intOf]; omega
        · have hhi : Hid (∀ (h : q < O.length), ¬ O[q] < x) := W_hid (fun h e => hgo ⟨by rw [← hOl.out]; exact h, by rw [List.getD_eq_getElem?_getD, List.getElem?_eq_getElem h]; exact e⟩)
          have hst2 := W_hid (hst.out q hqk hlo.out hhi.out)
          have e9 : Hid (fcl (O.take q ++ x :: O.drop q) = [] ++ ((fcl O).take (q * 1)) ++ [Value.int .u64 (x : Int)] ++ ((fcl O).drop (q * 1)) ∧ 0 + q + 1 + (k - q) = k + 1) := by
            refine ⟨?_, by omega⟩
            unfold fcl
            rw [Nat.mul_one, List.map_append, List.map_cons, List.map_take, List.map_drop, List.nil_append, List.append_assoc]
            rfl
          have hex : q = k ∨ (q < k ∧ ∃ y : Nat, ¬ y < x ∧ ∃ b2 o2, a = some ⟨b2, o2, none⟩ ∧ wr.cell? ⟨b2, o2 + q, none⟩ = some (.int .u64 (y : Int))) := by
            rcases Nat.lt_or_ge q k with h1 | h1
            · obtain ⟨b2, o2, c3, e1, -, -, -, -, hcl, -⟩ := own_cells S0 (by omega)
              simp only [Value.slice.injEq] at e1
              have hqO : q < O.length := by rw [hOl.out]; exact h1
              exact .inr ⟨h1, O[q], hhi.out hqO, b2, o2, e1.1, hcl q _ (by unfold fcl; rw [List.getElem?_map, List.getElem?_eq_getElem hqO]; rfl)⟩
            · exact .inl (by omega)
          have ha0 : a = none ∨ ∃ b o, a = some ⟨b, o, none⟩ := by
            rcases S0.2 with ⟨h1, _⟩ | ⟨g', cap', cur, h1, _⟩
            · simp only [Value.slice.injEq] at h1; exact .inl h1.1
            · simp only [Value.slice.injEq] at h1; exact .inr ⟨_, _, h1.1⟩
          have hcm : c ≤ maxLen := by
            rcases S0.2 with ⟨h1, _⟩ | ⟨g', cap', cur, h1, _, _, _, h2, _⟩
            · simp only [Value.slice.injEq] at h1; rw [h1.2.2]; exact Nat.zero_le _
            · simp only [Value.slice.injEq] at h1; rw [h1.2.2]; exact h2
          unfold maxLen at hcm
          obtain ⟨X, hmk, hmo⟩ := Own.make_room Tryz.underlying41 iu64 (k + 1) ((k : Int) + 1) rfl (by omega) (by omega)
          have hrhi := run_hi Tryz.underlying41 elem_u64 iu64 a k c q hqk hkc ha0
          obtain ⟨a9, hrlo, hS9, hb9⟩ := cut_lo Tryz.underlying41 elem_u64 iu64 S0 rfl hkc q hqk
          have hS8 := src_take S0 rfl q hqk
          have hwk : IntKind.i64.wrap ((k : Int) + 1) = (k : Int) + 1 := IntWalk.i64_in _ (by omega)
          have xk2 : (q : Int) ≤ k := by omega
          have hone1 : Hid (∀ u ∈ (fcl O).take (q * 1), u.oneCell' = true) := W_hid (fun u hu => fcl_one O u (List.mem_of_mem_take hu))
          have hone2 : Hid (∀ u ∈ (fcl O).drop (q * 1), u.oneCell' = true) := W_hid (fun u hu => fcl_one O u (List.mem_of_mem_drop hu))
          have hone3 : Hid (∀ u ∈ [Value.int .u64 (x : Int)], u.oneCell' = true) := W_hid (fcl_one [x])
          replace hS9 := W_hid hS9
          replace hS8 := W_hid hS8
          replace hmo := W_hid hmo
          replace hb9 := W_hid hb9
          clear S0 hgo hst hhi hlo ha0
          rcases hex with hex | ⟨h1, y, h2, b2, o2, rfl, t3⟩
          · have d0 : decide ((q : Int) < (k : Int)) = false := by simp; omega
            have d1 : decide (q < k) = false := by simp; omega
            replace hex := W_hid hex
            go_wp2_with fail
            go_quiet (fail)
            go_wp2_with fail
            have A1 : Hid (((wr.drewN nq).alloc X).drew.ownsRow wr.heap.size 23 1 (.slice (some ⟨wr.heap.size, 0, none⟩) 0 (k + 1)) 0 []) := W_hid (hmo.out (wr.drewN nq) wr.heap.size (Nat.le_refl _))
            have K1 : Hid (Below wr.heap.size wr ((wr.drewN nq).alloc X).drew) := W_hid ((below_drewN (Below.refl wr.heap.size wr) nq).trans (((Below.refl (wr.drewN nq).heap.size (wr.drewN nq)).alloc (Nat.le_refl _) X).drew))
            have S1 := W_hid (hS8.out.keep K1.out)
            go_region_held3 (fun w' => w'.cell? ⟨g, 2, none⟩ = some (.slice (some ⟨b, o, none⟩) N cap0)) (first | assumption | go_keep)
              (first | (refine Own.step_app rfl (.tmp 40) (.tmp 43) 41 rfl Tryz.underlying41 iu64 _ (.slice a q c) rfl rfl A1.out K1.out.size S1.out hone1.out (by unfold maxLen; omega) (by omega) ?_
                        intro v2 w2 ho2 hg2 hob2
                        have A2 := W_hid ho2
                        have K2 := W_hid (K1.out.grown hg2 K1.out.size (fun x hx => Own.ge A1.out x hx))
                        have x2 : w2.cell? ⟨g, 2, none⟩ = some (.slice (some ⟨b, o, none⟩) N cap0) := by have t := (H.out.keep (hB.out.trans (K2.out.mono hB.out.size))).c2; rw [hN.out] at t; exact t
                        clear ho2 hg2 hob2))
            have t2 : w2.cell? ⟨b, o + k * 3, none⟩ = some (.int .u64 (x : Int)) := by rw [K2.out.cell (p := ⟨b, o + k * 3, none⟩) (cell_lt t0)]; exact t0
            have A3 := W_hid (A2.out.alloc (.cells #[.int .u64 (x : Int)] 23))
            have K3 := W_hid (K2.out.alloc K2.out.size (.cells #[.int .u64 (x : Int)] 23))
            have S3 := W_hid (src_own (World.ownsRow_lit (base := 0) (e := 23) (size := 1) w2 #[.int .u64 (x : Int)] 1 (Nat.zero_le _) (by decide) rfl))
            obtain ⟨a22, c22, rfl⟩ := Own.form A2.out
            clear c2 t0
            go_upto_region 10 with (refine Own.wpList_app rfl (.tmp 45) (.tmp 54) 41 rfl Tryz.underlying41 iu64 _ _ rfl rfl A3.out K3.out.size S3.out hone3.out (by unfold maxLen; omega) (by omega) ?_; intro v4 w4 ho4 hg4 hob4; have A4 := W_hid ho4; have K4 := W_hid (K3.out.grown hg4 K3.out.size (fun x hx => Own.ge A3.out x hx)); clear ho4 hg4 hob4)
            clear x2 t2
            have S4 := W_hid (hS9.out.keep K4.out)
            obtain ⟨a44, c44, rfl⟩ := Own.form A4.out
            go_wp2_with (refine Own.wpList_app rfl (.tmp 56) (.tmp 59) 41 rfl Tryz.underlying41 iu64 _ _ rfl rfl A4.out K4.out.size S4.out hone2.out (by unfold maxLen; omega) (by omega) ?_; intro v5 w5 ho5 hg5 hob5; obtain ⟨a55, c55, rfl⟩ := Own.form ho5; have A5 := W_hid ho5; have K5 := W_hid (K4.out.grown hg5 K4.out.size (fun x hx => Own.ge A4.out x hx)); clear ho5 hg5 hob5)
            have A6 := A5.out
            rw [e9.out.2, ← e9.out.1] at A6
            have hc5 : k + 1 ≤ c55 := by
              rcases A6.2 with ⟨_, h1⟩ | ⟨g', cap', cur, h1, _, _, h2, _⟩
              · omega
              · simp only [Value.slice.injEq] at h1; rw [h1.2.2]; exact h2
            have hB5 := W_hid (hB.out.trans (K5.out.mono hB.out.size))
            have A7 := W_hid (Own.low hB.out.size A6)
            go_roundw
            case rel =>
              try rw [e9.out.2]
              try rw [show q + 1 + (k - q) = k + 1 from by omega]
              exact ⟨k + 1, _, a55, c55, by omega, by go_num, rfl, hc5, hst2, A7, hB5⟩
            case measure => simp [intOf]; omega
          · have d1 : decide ((y : Int) < (x : Int)) = false := by simp; omega
            have d0 : (q : Int) < k := by omega
            go_wp2_with fail
            go_quiet (fail)
            go_wp2_with fail
            have A1 : Hid (((wr.drewN nq).alloc X).drew.ownsRow wr.heap.size 23 1 (.slice (some ⟨wr.heap.size, 0, none⟩) 0 (k + 1)) 0 []) := W_hid (hmo.out (wr.drewN nq) wr.heap.size (Nat.le_refl _))
            have K1 : Hid (Below wr.heap.size wr ((wr.drewN nq).alloc X).drew) := W_hid ((below_drewN (Below.refl wr.heap.size wr) nq).trans (((Below.refl (wr.drewN nq).heap.size (wr.drewN nq)).alloc (Nat.le_refl _) X).drew))
            have S1 := W_hid (hS8.out.keep K1.out)
            go_region_held3 (fun w' => w'.cell? ⟨g, 2, none⟩ = some (.slice (some ⟨b, o, none⟩) N cap0)) (first | assumption | go_keep)
              (first | (refine Own.step_app rfl (.tmp 40) (.tmp 43) 41 rfl Tryz.underlying41 iu64 _ (.slice (some ⟨b2, o2, none⟩) q c) rfl rfl A1.out K1.out.size S1.out hone1.out (by unfold maxLen; omega) (by omega) ?_
                        intro v2 w2 ho2 hg2 hob2
                        have A2 := W_hid ho2
                        have K2 := W_hid (K1.out.grown hg2 K1.out.size (fun x hx => Own.ge A1.out x hx))
                        have x2 : w2.cell? ⟨g, 2, none⟩ = some (.slice (some ⟨b, o, none⟩) N cap0) := by have t := (H.out.keep (hB.out.trans (K2.out.mono hB.out.size))).c2; rw [hN.out] at t; exact t
                        clear ho2 hg2 hob2))
            have t2 : w2.cell? ⟨b, o + k * 3, none⟩ = some (.int .u64 (x : Int)) := by rw [K2.out.cell (p := ⟨b, o + k * 3, none⟩) (cell_lt t0)]; exact t0
            have A3 := W_hid (A2.out.alloc (.cells #[.int .u64 (x : Int)] 23))
            have K3 := W_hid (K2.out.alloc K2.out.size (.cells #[.int .u64 (x : Int)] 23))
            have S3 := W_hid (src_own (World.ownsRow_lit (base := 0) (e := 23) (size := 1) w2 #[.int .u64 (x : Int)] 1 (Nat.zero_le _) (by decide) rfl))
            obtain ⟨a22, c22, rfl⟩ := Own.form A2.out
            clear c2 t0
            go_upto_region 10 with (refine Own.wpList_app rfl (.tmp 45) (.tmp 54) 41 rfl Tryz.underlying41 iu64 _ _ rfl rfl A3.out K3.out.size S3.out hone3.out (by unfold maxLen; omega) (by omega) ?_; intro v4 w4 ho4 hg4 hob4; have A4 := W_hid ho4; have K4 := W_hid (K3.out.grown hg4 K3.out.size (fun x hx => Own.ge A3.out x hx)); clear ho4 hg4 hob4)
            clear x2 t2
            have S4 := W_hid (hS9.out.keep K4.out)
            obtain ⟨a44, c44, rfl⟩ := Own.form A4.out
            go_wp2_with (refine Own.wpList_app rfl (.tmp 56) (.tmp 59) 41 rfl Tryz.underlying41 iu64 _ _ rfl rfl A4.out K4.out.size S4.out hone2.out (by unfold maxLen; omega) (by omega) ?_; intro v5 w5 ho5 hg5 hob5; obtain ⟨a55, c55, rfl⟩ := Own.form ho5; have A5 := W_hid ho5; have K5 := W_hid (K4.out.grown hg5 K4.out.size (fun x hx => Own.ge A4.out x hx)); clear ho5 hg5 hob5)
            have A6 := A5.out
            rw [e9.out.2, ← e9.out.1] at A6
            have hc5 : k + 1 ≤ c55 := by
              rcases A6.2 with ⟨_, h1⟩ | ⟨g', cap', cur, h1, _, _, h2, _⟩
              · omega
              · simp only [Value.slice.injEq] at h1; rw [h1.2.2]; exact h2
            have hB5 := W_hid (hB.out.trans (K5.out.mono hB.out.size))
            have A7 := W_hid (Own.low hB.out.size A6)
            go_roundw
            case rel =>
              try rw [e9.out.2]
              try rw [show q + 1 + (k - q) = k + 1 from by omega]
              exact ⟨k + 1, _, a55, c55, by omega, by go_num, rfl, hc5, hst2, A7, hB5⟩
            case measure => simp [intOf]; omega
    · obtain rfl : k = N := by omega
      clear hD
      go_wp2_with fail
      go_ret
      exact ⟨_, O, rfl, by rw [hN]; exact hU.out, by rw [hU.out.len]; exact hR.out, hB.out⟩
end Go.Proofs.YtigbjhmodpplbaaGreatDoor

/- The document's Same and SameFrames, of lists that are the same. -/
namespace Go.Proofs.YtigbjhmodpplbaaGreatDoor
open Go.ChangeShapes Go.WideShapes Go.ChangeAt Go.RowKit
set_option linter.unusedVariables false
set_option linter.unusedSimpArgs false

/-- A list of numbers in memory. -/
structure NC (w : World) (x : Option Addr) (l : List Nat) : Prop where
  cell : ∀ (i : Nat) (hi : i < l.length), ∃ b o, x = some ⟨b, o, none⟩ ∧ w.cell? ⟨b, o + i, none⟩ = some (.int .u64 ((l[i] : Nat) : Int))
theorem NC.keep {w w' : World} {x : Option Addr} {l : List Nat} (h : NC w x l) (hb : Below w.heap.size w w') : NC w' x l := ⟨fun i hi => by
  obtain ⟨b, o, h1, h2⟩ := h.cell i hi
  exact ⟨b, o, h1, by rw [hb.cell (cell_lt h2)]; exact h2⟩⟩
theorem NC.own {w : World} {base n cap : Nat} {x : Option Addr} {l : List Nat} (h : w.ownsRow base 23 1 (.slice x n cap) l.length (fcl l)) : NC w x l := ⟨fun i hi => by
  obtain ⟨b, o, c, hv, -, -, -, -, hc, -⟩ := own_cells h (by omega)
  simp only [Value.slice.injEq] at hv
  exact ⟨b, o, hv.1, hc i _ (by unfold fcl; rw [List.getElem?_map, List.getElem?_eq_getElem hi]; rfl)⟩⟩

theorem map_neq (f t : Nat) (p : Int) (h : Bool) (w : World) :
    (binOp .neq 38 (.agg #[.int .u64 (f : Int), .int .u64 (t : Int), .int .i64 p, .bool h]) (.agg #[.int .u64 (f : Int), .int .u64 (t : Int), .int .i64 p, .bool h])).run Tryz.prog w = .ok (.bool false) w := by
  cases h <;> simp [go_sem]

set_option maxRecDepth 100000 in
set_option maxHeartbeats 2000000 in
theorem SameFrames_yes (x1 x2 : Option Addr) (c1 c2 : Nat) (l : List Nat) (w : World) (hl : l.length ≤ 100000) (h1 : NC w x1 l) (h2 : NC w x2 l) :
    Calls Tryz.prog 26 #[.slice x1 l.length c1, .slice x2 l.length c2] w fun e w' => e = .returned (.bool true) ∧ Below w.heap.size w w' := by
  have H1 := W_hid h1
  have H2 := W_hid h2
  obtain ⟨N, hN⟩ : ∃ N, l.length = N := ⟨_, rfl⟩
  rw [hN] at hl ⊢
  replace hN := W_hid hN
  have he : ((N : Int) != (N : Int)) = false := by simp
  clear h1 h2
  go_enter Tryz.func26, Tryz.ntmps26
  go_wp2
  go_loopw [5] (fun i wr => ∃ k : Nat, k ≤ N ∧ i = .int .i64 k ∧ Below w.heap.size w wr) (fun i _ => N - (intOf i).toNat)
  case atStart => exact ⟨0, Nat.zero_le _, rfl, Below.refl _ _⟩
  case round =>
    obtain ⟨k, hk, rfl, bel⟩ := hrel
    by_cases hlt : k < N
    · have hkl : k < l.length := by rw [hN.out]; exact hlt
      obtain ⟨b1, o1, rfl, g1⟩ := (H1.out.keep bel).cell k hkl
      obtain ⟨b2, o2, rfl, g2⟩ := (H2.out.keep bel).cell k hkl
      obtain ⟨v, hv⟩ : ∃ v, l[k] = v := ⟨_, rfl⟩
      rw [hv] at g1 g2
      have hq : ((v : Int) != (v : Int)) = false := by simp
      clear hv hkl
      go_wp2
      go_quiet (fail)
      go_wp2
      go_roundw
      case rel => exact ⟨k + 1, by omega, by go_num, below_drewN bel _⟩
      case measure => simp [intOf]; omega
    · obtain rfl : k = N := by omega
      go_wp2
      go_ret
      exact ⟨rfl, bel⟩

set_option maxRecDepth 100000 in
set_option maxHeartbeats 2000000 in
theorem RadSame_yes (v1 v2 : Value) (B1 B2 : Nat) (L : List RX.Pg) (w : World) (hl : L.length ≤ 100000) (h1 : w.ownsRow B1 38 4 v1 L.length (pcl L)) (h2 : w.ownsRow B2 38 4 v2 L.length (pcl L)) :
    Calls Tryz.prog 25 #[v1, v2] w fun e w' => e = .returned (.bool true) ∧ Below w.heap.size w w' := by
  obtain ⟨x1, c1, rfl, hc1, hm1⟩ := own_lens h1
  obtain ⟨x2, c2, rfl, hc2, hm2⟩ := own_lens h2
  have key : ∀ {B : Nat} {x : Option Addr} {c : Nat} (h : w.ownsRow B 38 4 (.slice x L.length c) L.length (pcl L)) (i : Nat) (hi : i < L.length), ∃ b o, x = some ⟨b, o, none⟩ ∧
      w.cell? ⟨b, o + i * 4, none⟩ = some (.int .u64 (L[i].1 : Int)) ∧ w.cell? ⟨b, o + i * 4 + 1, none⟩ = some (.int .u64 (L[i].2.1 : Int)) ∧ w.cell? ⟨b, o + i * 4 + 2, none⟩ = some (.int .i64 L[i].2.2.1) ∧ w.cell? ⟨b, o + i * 4 + 3, none⟩ = some (.bool L[i].2.2.2) := fun h i hi => by
    obtain ⟨b, o, cap, hv, -, -, -, -, hc, -⟩ := own_cells h (by omega)
    have kk : ∀ m v, m < 4 → (pgc L[i])[m]? = some v → w.cell? ⟨b, o + (i * 4 + m), none⟩ = some v := fun m v hm hv => hc _ _ ((flat_get pgc 4 pgc_len L i m hi hm).trans hv)
    simp only [Value.slice.injEq] at hv
    exact ⟨b, o, hv.1, kk 0 _ (by omega) rfl, kk 1 _ (by omega) rfl, kk 2 _ (by omega) rfl, kk 3 _ (by omega) rfl⟩
  have H1 := W_hid (key h1)
  have H2 := W_hid (key h2)
  obtain ⟨N, hN⟩ : ∃ N, L.length = N := ⟨_, rfl⟩
  rw [hN] at hl hc1 hc2 ⊢
  replace hN := W_hid hN
  have he : ((N : Int) != (N : Int)) = false := by simp
  clear h1 h2 key
  go_enter Tryz.func25, Tryz.ntmps25
  go_wp2
  go_loopw [5] (fun i wr => ∃ k : Nat, k ≤ N ∧ i = .int .i64 k ∧ Below w.heap.size w wr) (fun i _ => N - (intOf i).toNat)
  case atStart => exact ⟨0, Nat.zero_le _, rfl, Below.refl _ _⟩
  case round =>
    obtain ⟨k, hk, rfl, bel⟩ := hrel
    by_cases hlt : k < N
    · have hkl : k < L.length := by rw [hN.out]; exact hlt
      obtain ⟨b1, o1, rfl, g0, g1, g2, g3⟩ := H1.out k hkl
      obtain ⟨b2, o2, rfl, k0, k1, k2, k3⟩ := H2.out k hkl
      have i0 := cell_keep bel rfl g0
      have i1 := cell_keep bel rfl g1
      have i2 := cell_keep bel rfl g2
      have i3 := cell_keep bel rfl g3
      have j0 := cell_keep bel rfl k0
      have j1 := cell_keep bel rfl k1
      have j2 := cell_keep bel rfl k2
      have j3 := cell_keep bel rfl k3
      generalize L[k] = x at *
      obtain ⟨va, f, p, h⟩ := x
      simp only at i0 i1 i2 i3 j0 j1 j2 j3
      have hq := map_neq va f p h
      clear g0 g1 g2 g3 k0 k1 k2 k3 hkl
      go_wp2
      go_quiet (fail)
      go_wp2
      go_roundw
      case rel => exact ⟨k + 1, by omega, by go_num, below_drewN bel _⟩
      case measure => simp [intOf]; omega
    · obtain rfl : k = N := by omega
      go_wp2
      go_ret
      exact ⟨rfl, bel⟩
end Go.Proofs.YtigbjhmodpplbaaGreatDoor

/- The program's tree and the document's, side by side: each call is answered alike. -/
namespace Go.Proofs.YtigbjhmodpplbaaGreatDoor
open Go.ChangeShapes Go.WideShapes Go.ChangeAt Go.RowKit
set_option linter.unusedVariables false
set_option linter.unusedSimpArgs false

/-- Both trees: the program's has tables T1, F1, G1, the document's T, F, G (the same between two calls). -/
structure DS (w : World) (g pg pb n m r b : Nat) (D : List Nat) (g2 pg2 pb2 : Nat) (T1 T : Nat → Bool) (F1 F : RX.Tabs) (G1 G : RX.Pags) (K : Nat) : Prop where
  full : ∃ M, Full w g pg pb n m T1 r b M F1 G1
  doc : ∃ lv tv L Tl, DM w D g2 pg2 pb2 n T lv tv L Tl ∧ RX.PB L G ∧ RX.TB Tl F r ∧ L.length ≤ K ∧ Tl.length ≤ 1 + 3 * K
  good : RX.Good F1 G1 T1 n
  apart : ∀ x ∈ D, x ≠ g ∧ x ≠ pg ∧ x ≠ pb ∧ x ≠ b ∧ x ≠ 0
  lt : ∀ x ∈ D, x < w.heap.size
section
variable {w w' : World} {g pg pb n m r b g2 pg2 pb2 K : Nat} {D D' : List Nat} {T1 T T' : Nat → Bool} {F1 F F' : RX.Tabs} {G1 G G' : RX.Pags}
theorem DS.keep (h : DS w g pg pb n m r b D g2 pg2 pb2 T1 T F1 F G1 G K) (hb : Below w.heap.size w w') : DS w' g pg pb n m r b D g2 pg2 pb2 T1 T F1 F G1 G K := by
  obtain ⟨M, hF⟩ := h.full
  obtain ⟨lv, tv, L, Tl, h1, h2⟩ := h.doc
  exact ⟨⟨M, hF.keep hb⟩, ⟨lv, tv, L, Tl, h1.keep hb, h2⟩, h.good, h.apart, fun x hx => Nat.lt_of_lt_of_le (h.lt x hx) hb.size⟩
/-- The program's call is done. -/
theorem DS.half (h : DS w g pg pb n m r b D g2 pg2 pb2 T1 T F1 F G1 G K) {T2 : Nat → Bool} {F2 : RX.Tabs} {G2 : RX.Pags} (hF : ∃ M, Full w' g pg pb n m T2 r b M F2 G2) (hg : RX.Good F2 G2 T2 n) (hb : But [pg, pb, b] w w') : DS w' g pg pb n m r b D g2 pg2 pb2 T2 T F2 F G2 G K := by
  obtain ⟨lv, tv, L, Tl, h1, h2⟩ := h.doc
  exact ⟨hF, ⟨lv, tv, L, Tl, h1.but hb (fun x hx hm => by have := h.apart x hx; simp at hm; omega), h2⟩, hg, h.apart, fun x hx => Nat.lt_of_lt_of_le (h.lt x hx) hb.size⟩
/-- The document's call is done. -/
theorem DS.other (h : DS w g pg pb n m r b D g2 pg2 pb2 T1 T F1 F G1 G K) {lv tv : Value} {L : List RX.Pg} {Tl : List RX.Tb} {K' : Nat} (hd : DM w' D' g2 pg2 pb2 n T1 lv tv L Tl) (hP : RX.PB L G1) (hB : RX.TB Tl F1 r) (h1 : L.length ≤ K') (h2 : Tl.length ≤ 1 + 3 * K') (hm : Mv D D' w w') (hlt : ∀ x ∈ D', x < w'.heap.size) : DS w' g pg pb n m r b D' g2 pg2 pb2 T1 T1 F1 F1 G1 G1 K' := by
  obtain ⟨M, hF⟩ := h.full
  have hl := hF.lts
  have ha := fun x hx => h.apart x hx
  have hkl := hF.tt.tm.kt.lt
  have hn : g ∉ D ∧ pg ∉ D ∧ pb ∉ D ∧ b ∉ D ∧ 0 ∉ D := ⟨fun hm => (ha _ hm).1 rfl, fun hm => (ha _ hm).2.1 rfl, fun hm => (ha _ hm).2.2.1 rfl, fun hm => (ha _ hm).2.2.2.1 rfl, fun hm => (ha _ hm).2.2.2.2 rfl⟩
  refine ⟨⟨M, ⟨⟨⟨hF.tt.tm.box.but hm.but hn.1, hF.tt.tm.mb.heap (hm.but.block b hF.tt.tm.mb.lt hn.2.2.2.1), hF.tt.tm.kt.but hm.but hn.2.2.2.2⟩, ⟨hF.tt.pl.box.elim fun lf e => ⟨lf, e.1, e.2.but hm.but hn.2.1⟩, hF.tt.pl.row.but hm.but hn.2.2.1, hF.tt.pl.ne, hF.tt.pl.n1, hF.tt.pl.n2, hF.tt.pl.nm, hF.tt.pl.m8, hF.tt.pl.m2, hF.tt.pl.pad⟩, hF.tt.g1, hF.tt.g2, hF.tt.g3, hF.tt.b1, hF.tt.b2, hF.tt.k0, hF.tt.k1, hF.tt.k2, hF.tt.k3⟩, hF.inv, hF.rep, hF.tk⟩⟩, ⟨lv, tv, L, Tl, hd, hP, hB, h1, h2⟩, h.good, fun x hx => ?_, hlt⟩
  rcases hm.own x hx with e | e
  · exact h.apart x e
  · have := hl.1; have := hl.2.1; have := hl.2.2.1; have := hl.2.2.2.1; omega
end

/-- What a call of the document's leaves, behind the program's. -/
def Zed (w1 : World) (g pg pb n m r b : Nat) (D : List Nat) (g2 pg2 pb2 K : Nat) (w' : World) : Prop := ∃ D' T F G, DS w' g pg pb n m r b D' g2 pg2 pb2 T T F F G G (K + 1) ∧ Mv D D' w1 w'
theorem DM.own_lt {w : World} {D : List Nat} {g pg pb n : Nat} {T : Nat → Bool} {lv tv : Value} {L : List RX.Pg} {Tl : List RX.Tb} (h : DM w D g pg pb n T lv tv L Tl) : ∃ D2, (∀ x ∈ D2, x ∈ D) ∧ (∀ x ∈ D2, x < w.heap.size) ∧ DM w D2 g pg pb n T lv tv L Tl := by
  refine ⟨D.filter (fun x => decide (x < w.heap.size)), fun x hx => (List.mem_filter.1 hx).1, fun x hx => by simpa using (List.mem_filter.1 hx).2, ?_⟩
  have hin : ∀ x, x ∈ D → x < w.heap.size → x ∈ D.filter (fun x => decide (x < w.heap.size)) := fun x h1 h2 => List.mem_filter.2 ⟨h1, by simpa using h2⟩
  exact ⟨h.box, h.lo, h.trow, h.rl, hin _ h.dg h.box.lt, hin _ h.dp h.rl.box.lt, hin _ h.db h.rl.row.lt, h.gp, h.gb, fun x hx => ⟨hin _ (h.ld x hx).1 (Go.Proofs.YtigbjhmodpplbaaGreatDoor.own_lt h.lo x hx), (h.ld x hx).2⟩, fun x hx => ⟨hin _ (h.td x hx).1 (Go.Proofs.YtigbjhmodpplbaaGreatDoor.own_lt h.trow x hx), (h.td x hx).2⟩, h.llt, h.tlt⟩

section
variable {g pg pb n m r b g2 pg2 pb2 K : Nat} {D : List Nat} {T : Nat → Bool} {F : RX.Tabs} {G : RX.Pags} {w : World}

/-- A call of the document's that gave its new lists. -/
theorem zed_of {w1 w' : World} {T1 : Nat → Bool} {F1 : RX.Tabs} {G1 : RX.Pags} (h : DS w1 g pg pb n m r b D g2 pg2 pb2 T1 T F1 F G1 G K) {D' : List Nat} {lv tv : Value} {L : List RX.Pg} {Tl : List RX.Tb} (hd : DM w' D' g2 pg2 pb2 n T1 lv tv L Tl) (hP : RX.PB L G1) (hB : RX.TB Tl F1 r) (h1 : L.length ≤ K + 1) (h2 : Tl.length ≤ 1 + 3 * (K + 1)) (hm : Mv D D' w1 w') : Zed w1 g pg pb n m r b D g2 pg2 pb2 K w' := by
  obtain ⟨D2, a1, a2, a3⟩ := hd.own_lt
  exact ⟨D2, T1, F1, G1, h.other a3 hP hB h1 h2 ⟨hm.but, fun x hx => hm.own x (a1 x hx)⟩ a2, ⟨hm.but, fun x hx => hm.own x (a1 x hx)⟩⟩
theorem zed_same {w1 w' : World} (h : DS w1 g pg pb n m r b D g2 pg2 pb2 T T F F G G K) (hb : Below w1.heap.size w1 w') : Zed w1 g pg pb n m r b D g2 pg2 pb2 K w' := by
  obtain ⟨lv, tv, L, Tl, h1, h2, h3, h4, h5⟩ := h.doc
  exact zed_of h (h1.keep hb) h2 h3 (by omega) (by omega) (Mv.of hb)

/-- Map. -/
theorem both_map (h : DS w g pg pb n m r b D g2 pg2 pb2 T T F F G G K) (va f : Nat) (p : Int) (u : Bool) (hva : va < 18446744073709551616) (hf : f < 18446744073709551616) (hK : K ≤ 1000) :
    ∃ (c : Int) (T1 : Nat → Bool) (F1 : RX.Tabs) (G1 : RX.Pags),
      Calls Tryz.prog 22 #[.pointer (some ⟨g, 0, none⟩), .agg #[.int .u64 (va : Int), .int .u64 (f : Int), .int .i64 p, .bool u]] w (fun e w' => e = .returned (.int .i64 c) ∧ DS w' g pg pb n m r b D g2 pg2 pb2 T1 T F1 F G1 G K ∧ But [pg, pb, b] w w') ∧
      ∀ w1, DS w1 g pg pb n m r b D g2 pg2 pb2 T1 T F1 F G1 G K → Calls Tryz.prog 51 #[.pointer (some ⟨g2, 0, none⟩), .agg #[.int .u64 (va : Int), .int .u64 (f : Int), .int .i64 p, .bool u]] w1 (fun e w' => e = .returned (.int .i64 c) ∧ Zed w1 g pg pb n m r b D g2 pg2 pb2 K w') := by
  obtain ⟨M, hF⟩ := h.full
  have hlv := lv_le u
  by_cases hok : EN.right false u p f (lv u : Nat) ∧ va % EN.sz (lv u - 1) = 0 ∧ va < 140737488355328
  · obtain ⟨hr, hs, hv⟩ := hok
    obtain ⟨c, F1, G1, T1, hR⟩ := mapR_some hF.inv T va (lv u) f p hv (by omega) (by omega)
    have hg := good_mapR hF.inv h.good (by omega) hR
    refine ⟨c, T1, F1, G1, ?_, fun w1 h1 => ?_⟩
    · refine (Map_yes g pg pb n m r b va f u p c T T1 M F F1 G G1 w hF hv hr hs hR).mono ?_
      rintro e w' ⟨he, hF', hb⟩
      exact ⟨he, h.half hF' hg hb, hb⟩
    · obtain ⟨lv', tv, L, Tl, d1, d2, d3, d4, d5⟩ := h1.doc
      refine (rMap_yes D g2 pg2 pb2 n r T T1 lv' tv L Tl F F1 G G1 w1 d1 hF.inv d2 d3 h.good va f u p c hv hr hs hR (by omega) (by omega) h1.lt).mono ?_
      rintro e w' ⟨he, D', lv2, tv2, L2, Tl2, e1, e2, e3, e4, e5, e6⟩
      exact ⟨he, zed_of h1 e1 e2 e3 (by omega) (by omega) e6⟩
  · refine ⟨2, T, F, G, ?_, fun w1 h1 => ?_⟩
    · refine (Map_arg g pg r b va f u p M w hF.tt.tm hf hva hok).mono ?_
      rintro e w' ⟨he, hb⟩
      exact ⟨he, h.keep hb, But.of hb⟩
    · refine (rMap_arg g2 va f u p w1 hva hok).mono ?_
      rintro e w' ⟨he, hb⟩
      exact ⟨he, zed_same h1 hb⟩
/-- Unmap. -/
theorem both_unmap (h : DS w g pg pb n m r b D g2 pg2 pb2 T T F F G G K) (va : Nat) (hva : va < 18446744073709551616) (hK : K ≤ 1000) :
    ∃ (c : Int) (ml : List Value) (T1 : Nat → Bool) (F1 : RX.Tabs) (G1 : RX.Pags), (∃ x y z q, ml = mapL x y z q) ∧
      Calls Tryz.prog 23 #[.pointer (some ⟨g, 0, none⟩), .int .u64 (va : Int)] w (fun e w' => e = .returned (.tuple #[.agg ml.toArray, .int .i64 c]) ∧ DS w' g pg pb n m r b D g2 pg2 pb2 T1 T F1 F G1 G K ∧ But [pg, pb, b] w w') ∧
      ∀ w1, DS w1 g pg pb n m r b D g2 pg2 pb2 T1 T F1 F G1 G K → Calls Tryz.prog 52 #[.pointer (some ⟨g2, 0, none⟩), .int .u64 (va : Int)] w1 (fun e w' => e = .returned (.tuple #[.agg ml.toArray, .int .i64 c]) ∧ Zed w1 g pg pb n m r b D g2 pg2 pb2 K w') := by
  obtain ⟨M, hF⟩ := h.full
  by_cases hv : va < 140737488355328
  · obtain ⟨c, ml, F1, G1, T1, hR⟩ := unmapR_some hF.inv T va hv
    have hg := good_unmapR hF.inv h.good hR
    refine ⟨c, ml, T1, F1, G1, unmapR_form hR, ?_, fun w1 h1 => ?_⟩
    · refine (Unmap_yes g pg pb n m r b va c ml T T1 M F F1 G G1 w hF hv hR).mono ?_
      rintro e w' ⟨he, hF', hb⟩
      exact ⟨he, h.half hF' hg hb, hb⟩
    · obtain ⟨lv', tv, L, Tl, d1, d2, d3, d4, d5⟩ := h1.doc
      refine (rUnmap_yes D g2 pg2 pb2 n r T T1 lv' tv L Tl F F1 G G1 w1 d1 hF.inv d2 d3 h.good hF.tk va c ml hv hR (by omega) (by omega) h1.lt).mono ?_
      rintro e w' ⟨he, D', lv2, tv2, L2, Tl2, e1, e2, e3, e4, e5, e6⟩
      exact ⟨he, zed_of h1 e1 e2 e3 (by omega) (by omega) e6⟩
  · refine ⟨2, noMap, T, F, G, ⟨0, 0, 0, false, rfl⟩, ?_, fun w1 h1 => ?_⟩
    · refine (Unmap_arg g pg r b va M w hF.tt.tm (by omega)).mono ?_
      rintro e w' ⟨he, hb⟩
      exact ⟨he, h.keep hb, But.of hb⟩
    · refine (rUnmap_arg g2 va w1 (by omega)).mono ?_
      rintro e w' ⟨he, hb⟩
      exact ⟨he, zed_same h1 hb⟩
/-- Protect. -/
theorem both_prot (h : DS w g pg pb n m r b D g2 pg2 pb2 T T F F G G K) (va : Nat) (p : Int) (hva : va < 18446744073709551616) (hp1 : -9223372036854775808 ≤ p) (hp2 : p ≤ 9223372036854775807) (hK : K ≤ 1000) :
    ∃ (c : Int) (T1 : Nat → Bool) (F1 : RX.Tabs) (G1 : RX.Pags),
      Calls Tryz.prog 53 #[.pointer (some ⟨g, 0, none⟩), .int .u64 (va : Int), .int .i64 p] w (fun e w' => e = .returned (.int .i64 c) ∧ DS w' g pg pb n m r b D g2 pg2 pb2 T1 T F1 F G1 G K ∧ But [pg, pb, b] w w') ∧
      ∀ w1, DS w1 g pg pb n m r b D g2 pg2 pb2 T1 T F1 F G1 G K → Calls Tryz.prog 54 #[.pointer (some ⟨g2, 0, none⟩), .int .u64 (va : Int), .int .i64 p] w1 (fun e w' => e = .returned (.int .i64 c) ∧ Zed w1 g pg pb n m r b D g2 pg2 pb2 K w') := by
  obtain ⟨M, hF⟩ := h.full
  by_cases hok : va < 140737488355328 ∧ EN.perms p
  · obtain ⟨hv, hp⟩ := hok
    obtain ⟨c, G1, hR⟩ := protR_some G va p
    have hg := good_protR h.good hR
    refine ⟨c, T, F, G1, ?_, fun w1 h1 => ?_⟩
    · refine (Protect_yes g pg pb n m r b va p c T M F G G1 w hF hv hp hR).mono ?_
      rintro e w' ⟨he, hF', hb⟩
      have hb' : But [pg, pb, b] w w' := But.mono hb (fun x hx => by simp at hx ⊢; omega)
      exact ⟨he, h.half hF' hg hb', hb'⟩
    · obtain ⟨lv', tv, L, Tl, d1, d2, d3, d4, d5⟩ := h1.doc
      refine (rProt_yes D g2 pg2 pb2 n r n T lv' tv L Tl F G G1 w1 d1 hF.inv d2 va p c hv hp hR).mono ?_
      rintro e w' ⟨he, L2, e1, e2, e3, e4⟩
      exact ⟨he, zed_of h1 e1 e2 d3 (by omega) (by omega) e4⟩
  · refine ⟨2, T, F, G, ?_, fun w1 h1 => ?_⟩
    · refine (Protect_arg g pg r b va p M w hF.tt.tm hp1 hp2 hok).mono ?_
      rintro e w' ⟨he, hb⟩
      exact ⟨he, h.keep hb, But.of hb⟩
    · refine (rProt_arg g2 va p w1 hok).mono ?_
      rintro e w' ⟨he, rfl⟩
      exact ⟨he, zed_same h1 (Below.refl _ _)⟩
/-- Walk. -/
theorem both_walk (h : DS w g pg pb n m r b D g2 pg2 pb2 T T F F G G K) (va : Nat) (p : Int) (hva : va < 18446744073709551616) (hp1 : -9223372036854775808 ≤ p) (hp2 : p ≤ 9223372036854775807) :
    ∃ (a : Nat) (c : Int),
      Calls Tryz.prog 47 #[.pointer (some ⟨g, 0, none⟩), .int .u64 (va : Int), .int .i64 p] w (fun e w' => e = .returned (.tuple #[.int .u64 (a : Int), .int .i64 c]) ∧ DS w' g pg pb n m r b D g2 pg2 pb2 T T F F G G K ∧ But [pg, pb, b] w w') ∧
      ∀ w1, DS w1 g pg pb n m r b D g2 pg2 pb2 T T F F G G K → Calls Tryz.prog 55 #[.pointer (some ⟨g2, 0, none⟩), .int .u64 (va : Int), .int .i64 p] w1 (fun e w' => e = .returned (.tuple #[.int .u64 (a : Int), .int .i64 c]) ∧ Zed w1 g pg pb n m r b D g2 pg2 pb2 K w') := by
  obtain ⟨M, hF⟩ := h.full
  have hsm := small_of p hp1 hp2
  by_cases hok : va < 140737488355328 ∧ 0 ≤ p ∧ p ≤ 7
  · have hw : walkOk va p = true := by unfold walkOk; rw [hsm, decide_eq_true hok.1, decide_eq_true hok.2]; rfl
    refine ⟨walkA G va p, walkC G va p, ?_, fun w1 h1 => ?_⟩
    · refine (Walk_yes g pg pb n m r b va p T M F G w hF hw).mono ?_
      rintro e w' ⟨he, hb⟩
      exact ⟨he, h.keep hb, But.of hb⟩
    · obtain ⟨lv', tv, L, Tl, d1, d2, d3, d4, d5⟩ := h1.doc
      refine (rWalk_yes D g2 pg2 pb2 n r n T lv' tv L Tl F G w1 d1 hF.inv d2 va p hok.1 hok.2.1 hok.2.2).mono ?_
      rintro e w' ⟨he, hb⟩
      exact ⟨he, zed_same h1 hb⟩
  · have hw : walkOk va p = false := by
      unfold walkOk
      rw [hsm]
      by_cases h1 : va < 140737488355328
      · rw [decide_eq_true h1, decide_eq_false (fun h2 => hok ⟨h1, h2⟩)]; rfl
      · rw [decide_eq_false h1]; rfl
    refine ⟨0, 2, ?_, fun w1 h1 => ?_⟩
    · refine (Walk_arg g pg r b va p M w hF.tt.tm hw).mono ?_
      rintro e w' ⟨he, hb⟩
      exact ⟨he, h.keep hb, But.of hb⟩
    · refine (rWalk_arg g2 va p w1 hok).mono ?_
      rintro e w' ⟨he, rfl⟩
      exact ⟨he, zed_same h1 (Below.refl _ _)⟩
end
end Go.Proofs.YtigbjhmodpplbaaGreatDoor

/- The laws' helper does: a call of both trees is answered alike. -/
namespace Go.Proofs.YtigbjhmodpplbaaGreatDoor
open Go.ChangeShapes Go.WideShapes Go.ChangeAt Go.RowKit
set_option linter.unusedVariables false
set_option linter.unusedSimpArgs false

/-- What does leaves. -/
def Did (w0 : World) (g pg pb n m r b : Nat) (D : List Nat) (g2 pg2 pb2 K : Nat) (w' : World) : Prop := ∃ D' T F G, DS w' g pg pb n m r b D' g2 pg2 pb2 T T F F G G (K + 1) ∧ But ([pg, pb, b] ++ D) w0 w' ∧ ∀ x ∈ D', x ∈ D ∨ w0.heap.size ≤ x
theorem did_of {w0 w1 w2 w' : World} {g pg pb n m r b g2 pg2 pb2 K : Nat} {D : List Nat} (h1 : But ([pg, pb, b] ++ D) w0 w1) (hz : Zed w1 g pg pb n m r b D g2 pg2 pb2 K w2) (h2 : Below w2.heap.size w2 w') : Did w0 g pg pb n m r b D g2 pg2 pb2 K w' := by
  obtain ⟨D', T, F, G, hd, hm⟩ := hz
  refine ⟨D', T, F, G, hd.keep h2, (h1.trans (But.mono hm.but (fun x hx => List.mem_append.2 (.inr hx)))).keep h2, fun x hx => ?_⟩
  rcases hm.own x hx with e | e
  · exact .inl e
  · exact .inr (Nat.le_trans h1.size e)
theorem kind_cases (k : Int) : ((((k.tmod 4) + 4).tmod 4) = 0 ∨ (((k.tmod 4) + 4).tmod 4) = 1 ∨ (((k.tmod 4) + 4).tmod 4) = 2 ∨ (((k.tmod 4) + 4).tmod 4) = 3) ∧ -3 ≤ k.tmod 4 ∧ k.tmod 4 ≤ 3 := by
  have h1 := Int.tmod_lt_of_pos k (show (0 : Int) < 4 by decide)
  have h2 : -4 < k.tmod 4 := by
    have := Int.lt_tmod_of_pos k (show (0 : Int) < 4 by decide)
    omega
  obtain ⟨t, ht⟩ : ∃ t, k.tmod 4 = t := ⟨_, rfl⟩
  rw [ht] at h1 h2 ⊢
  have : t = -3 ∨ t = -2 ∨ t = -1 ∨ t = 0 ∨ t = 1 ∨ t = 2 ∨ t = 3 := by omega
  rcases this with rfl | rfl | rfl | rfl | rfl | rfl | rfl <;> decide

set_option maxRecDepth 100000 in
set_option maxHeartbeats 4000000 in
theorem does_any (g pg pb n m r b : Nat) (D : List Nat) (g2 pg2 pb2 : Nat) (T : Nat → Bool) (F : RX.Tabs) (G : RX.Pags) (K : Nat) (w : World) (h : DS w g pg pb n m r b D g2 pg2 pb2 T T F F G G K) (kd : Int) (va f : Nat) (p : Int) (u : Bool)
    (hkd : -9223372036854775808 ≤ kd ∧ kd ≤ 9223372036854775807) (hva : va < 18446744073709551616) (hf : f < 18446744073709551616) (hp1 : -9223372036854775808 ≤ p) (hp2 : p ≤ 9223372036854775807) (hK : K ≤ 1000) :
    Calls Tryz.prog 15 #[.pointer (some ⟨g, 0, none⟩), .pointer (some ⟨g2, 0, none⟩), .agg #[.int .i64 kd, .int .u64 (va : Int), .int .u64 (f : Int), .int .i64 p, .bool u]] w fun e w' => e = .returned (.bool true) ∧ Did w g pg pb n m r b D g2 pg2 pb2 K w' := by
  obtain ⟨hcs, hk1, hk2⟩ := kind_cases kd
  obtain ⟨M, hF⟩ := h.full
  have hl := hF.lts
  have hap := W_hid h.apart
  have hlt := W_hid h.lt
  have bA : Below w.heap.size w (w.alloc (.cells #[.int .i64 kd, .int .u64 (va : Int), .int .u64 (f : Int), .int .i64 p, .bool u] 40)) := (Below.refl _ _).alloc (Nat.le_refl _) _
  have h0 := h.keep bA
  have hX0 : Blk (w.alloc (.cells #[.int .i64 kd, .int .u64 (va : Int), .int .u64 (f : Int), .int .i64 p, .bool u] 40)) w.heap.size 40 [.int .i64 kd, .int .u64 (va : Int), .int .u64 (f : Int), .int .i64 p, .bool u] := Blk.new w _ _ rfl
  have hXn : Hid (w.heap.size ∉ [pg, pb, b] ∧ w.heap.size ∉ D) := W_hid ⟨by simp; omega, fun hm => by have := hlt.out _ hm; omega⟩
  have hc0 := hX0.cell (j := 0) rfl
  obtain ⟨tm, htm⟩ : ∃ tm, kd.tmod 4 = tm := ⟨_, rfl⟩
  rw [htm] at hk1 hk2
  have hB0 := W_hid (show But ([pg, pb, b] ++ D) w (w.alloc (.cells #[.int .i64 kd, .int .u64 (va : Int), .int .u64 (f : Int), .int .i64 p, .bool u] 40)) from But.of bA)
  have hone := W_hid (fun (w1 w2 : World) (h1 : But [pg, pb, b] w1 w2) (h0 : But ([pg, pb, b] ++ D) w w1) => h0.trans (But.mono h1 (fun x hx => List.mem_append.2 (.inl hx))))
  rcases hcs with e0 | e0 | e0 | e0
  · rw [htm] at e0
    have hdr : Below (w.alloc (.cells #[.int .i64 kd, .int .u64 (va : Int), .int .u64 (f : Int), .int .i64 p, .bool u] 40)).heap.size (w.alloc (.cells #[.int .i64 kd, .int .u64 (va : Int), .int .u64 (f : Int), .int .i64 p, .bool u] 40)) (w.alloc (.cells #[.int .i64 kd, .int .u64 (va : Int), .int .u64 (f : Int), .int .i64 p, .bool u] 40)).drew := ⟨rfl, rfl, rfl, Nat.le_refl _, fun _ _ => rfl⟩
    obtain ⟨c, T1, F1, G1, cT, cR⟩ := both_map (h0.keep hdr) va f p u hva hf hK
    replace cT := W_hid cT
    replace cR := W_hid cR
    have hXd := W_hid (hX0.keep hdr)
    have hBd := W_hid (hB0.out.keep hdr)
    have x1 := hX0.cell (j := 1) rfl
    have x2 := hX0.cell (j := 2) rfl
    have x3 := hX0.cell (j := 3) rfl
    have x4 := hX0.cell (j := 4) rfl
    clear h h0 hF bA hl hdr hX0
    go_enter Tryz.func15, Tryz.ntmps15
    go_wp2_with fail
    go_region_held3 (fun w' => w'.cell? ⟨w.heap.size, 1, none⟩ = some (.int .u64 (va : Int)) ∧ w'.cell? ⟨w.heap.size, 2, none⟩ = some (.int .u64 (f : Int)) ∧ w'.cell? ⟨w.heap.size, 3, none⟩ = some (.int .i64 p) ∧ w'.cell? ⟨w.heap.size, 4, none⟩ = some (.bool u)) (first | assumption | go_keep)
      (first
        | (go_at_call 22; refine cT.out.mono ?_; rintro e w1 ⟨rfl, hd1, hb1⟩; have hX1 := hXd.out.but hb1 hXn.out.1; have y1 := hX1.cell (j := 1) rfl; have y2 := hX1.cell (j := 2) rfl; have y3 := hX1.cell (j := 3) rfl; have y4 := hX1.cell (j := 4) rfl; have hB1 := W_hid (hone.out _ _ hb1 hBd.out); replace cR := W_hid (cR.out w1 hd1); replace hX1 := W_hid hX1; clear hd1 hb1)
        | (go_at_call 51; refine cR.out.mono ?_; rintro e w2 ⟨rfl, hz⟩; have hX2 : Blk w2 w.heap.size 40 [.int .i64 kd, .int .u64 (va : Int), .int .u64 (f : Int), .int .i64 p, .bool u] := (by obtain ⟨D', T', F', G', hdd, hmm⟩ := hz; exact hX1.out.but hmm.but hXn.out.2); have z1 := hX2.cell (j := 1) rfl; have z2 := hX2.cell (j := 2) rfl; have z3 := hX2.cell (j := 3) rfl; have z4 := hX2.cell (j := 4) rfl; have hfin := W_hid (did_of hB1.out hz (Below.refl _ _)); clear hz hX2))
    go_wp2
    go_ret
    exact ⟨rfl, hfin.out⟩
  · rw [htm] at e0
    obtain ⟨c, ml, T1, F1, G1, ⟨mx, my, mz, mq, rfl⟩, cT, cR⟩ := both_unmap h0 va hva hK
    replace cT := W_hid cT
    replace cR := W_hid cR
    replace hX0 := W_hid hX0
    clear h h0 hF bA hl
    go_enter Tryz.func15, Tryz.ntmps15
    have x1 := hX0.out.cell (j := 1) rfl
    go_wp2_with fail
    refine cT.out.mono ?_
    rintro e w1 ⟨rfl, hd1, hb1⟩
    have hbl : Below w1.heap.size w1 (w1.alloc (.cells #[.int .u64 (mx : Int), .int .u64 (my : Int), .int .i64 mz, .bool mq] 38)) := (Below.refl _ _).alloc (Nat.le_refl _) _
    have hX1 := (hX0.out.but hb1 hXn.out.1).keep hbl
    have y1 := hX1.cell (j := 1) rfl
    have hB1 := W_hid ((hone.out _ _ hb1 hB0.out).keep hbl)
    have hA1 : Hid (Blk (w1.alloc (.cells #[.int .u64 (mx : Int), .int .u64 (my : Int), .int .i64 mz, .bool mq] 38)) w1.heap.size 38 [.int .u64 (mx : Int), .int .u64 (my : Int), .int .i64 mz, .bool mq]) := W_hid (Blk.new w1 _ _ rfl)
    have hnA : Hid (w1.heap.size ∉ D) := W_hid (fun hm => by have := hd1.lt _ hm; omega)
    replace cR := W_hid (cR.out _ (hd1.keep hbl))
    clear hd1 hb1 hX1 x1 hbl
    unfold mapL
    go_wp2_with fail
    refine cR.out.mono ?_
    rintro e w2 ⟨rfl, hz⟩
    have hA2 : Blk w2 w1.heap.size 38 [.int .u64 (mx : Int), .int .u64 (my : Int), .int .i64 mz, .bool mq] := by obtain ⟨D', T', F', G', hdd, hmm⟩ := hz; exact hA1.out.but hmm.but hnA.out
    have a0 := hA2.cell (j := 0) rfl
    have a1 := hA2.cell (j := 1) rfl
    have a2 := hA2.cell (j := 2) rfl
    have a3 := hA2.cell (j := 3) rfl
    have q0 : ∀ o, (w2.alloc o).cell? ⟨w1.heap.size, 0, none⟩ = some (.int .u64 (mx : Int)) := fun o => (hA2.alloc o).cell rfl
    have q1 : ∀ o, (w2.alloc o).cell? ⟨w1.heap.size, 1, none⟩ = some (.int .u64 (my : Int)) := fun o => (hA2.alloc o).cell rfl
    have q2 : ∀ o, (w2.alloc o).cell? ⟨w1.heap.size, 2, none⟩ = some (.int .i64 mz) := fun o => (hA2.alloc o).cell rfl
    have q3 : ∀ o, (w2.alloc o).cell? ⟨w1.heap.size, 3, none⟩ = some (.bool mq) := fun o => (hA2.alloc o).cell rfl
    have hfin := W_hid (did_of hB1.out hz ((Below.refl _ _).alloc (Nat.le_refl _) (.cells #[.int .u64 (mx : Int), .int .u64 (my : Int), .int .i64 mz, .bool mq] 38)))
    clear hz hA2
    unfold mapL
    go_wp2
    go_ret
    exact ⟨rfl, hfin.out⟩
  · rw [htm] at e0
    have hdr : Below (w.alloc (.cells #[.int .i64 kd, .int .u64 (va : Int), .int .u64 (f : Int), .int .i64 p, .bool u] 40)).heap.size (w.alloc (.cells #[.int .i64 kd, .int .u64 (va : Int), .int .u64 (f : Int), .int .i64 p, .bool u] 40)) (w.alloc (.cells #[.int .i64 kd, .int .u64 (va : Int), .int .u64 (f : Int), .int .i64 p, .bool u] 40)).drew := ⟨rfl, rfl, rfl, Nat.le_refl _, fun _ _ => rfl⟩
    obtain ⟨c, T1, F1, G1, cT, cR⟩ := both_prot (h0.keep hdr) va p hva hp1 hp2 hK
    replace cT := W_hid cT
    replace cR := W_hid cR
    have hXd := W_hid (hX0.keep hdr)
    have hBd := W_hid (hB0.out.keep hdr)
    have x1 := hX0.cell (j := 1) rfl
    have x2 := hX0.cell (j := 2) rfl
    have x3 := hX0.cell (j := 3) rfl
    have x4 := hX0.cell (j := 4) rfl
    clear h h0 hF bA hl hdr hX0
    go_enter Tryz.func15, Tryz.ntmps15
    go_wp2_with fail
    go_region_held3 (fun w' => w'.cell? ⟨w.heap.size, 1, none⟩ = some (.int .u64 (va : Int)) ∧ w'.cell? ⟨w.heap.size, 2, none⟩ = some (.int .u64 (f : Int)) ∧ w'.cell? ⟨w.heap.size, 3, none⟩ = some (.int .i64 p) ∧ w'.cell? ⟨w.heap.size, 4, none⟩ = some (.bool u)) (first | assumption | go_keep)
      (first
        | (go_at_call 53; refine cT.out.mono ?_; rintro e w1 ⟨rfl, hd1, hb1⟩; have hX1 := hXd.out.but hb1 hXn.out.1; have y1 := hX1.cell (j := 1) rfl; have y2 := hX1.cell (j := 2) rfl; have y3 := hX1.cell (j := 3) rfl; have y4 := hX1.cell (j := 4) rfl; have hB1 := W_hid (hone.out _ _ hb1 hBd.out); replace cR := W_hid (cR.out w1 hd1); replace hX1 := W_hid hX1; clear hd1 hb1)
        | (go_at_call 54; refine cR.out.mono ?_; rintro e w2 ⟨rfl, hz⟩; have hX2 : Blk w2 w.heap.size 40 [.int .i64 kd, .int .u64 (va : Int), .int .u64 (f : Int), .int .i64 p, .bool u] := (by obtain ⟨D', T', F', G', hdd, hmm⟩ := hz; exact hX1.out.but hmm.but hXn.out.2); have z1 := hX2.cell (j := 1) rfl; have z2 := hX2.cell (j := 2) rfl; have z3 := hX2.cell (j := 3) rfl; have z4 := hX2.cell (j := 4) rfl; have hfin := W_hid (did_of hB1.out hz (Below.refl _ _)); clear hz hX2))
    go_wp2
    go_ret
    exact ⟨rfl, hfin.out⟩
  · rw [htm] at e0
    obtain ⟨a, c, cT, cR⟩ := both_walk h0 va p hva hp1 hp2
    replace cT := W_hid cT
    replace cR := W_hid cR
    replace hX0 := W_hid hX0
    clear h h0 hF bA hl
    go_enter Tryz.func15, Tryz.ntmps15
    have x1 := hX0.out.cell (j := 1) rfl
    have x3 := hX0.out.cell (j := 3) rfl
    go_wp2_with fail
    refine cT.out.mono ?_
    rintro e w1 ⟨rfl, hd1, hb1⟩
    have hX1 := hX0.out.but hb1 hXn.out.1
    have y1 := hX1.cell (j := 1) rfl
    have y3 := hX1.cell (j := 3) rfl
    have hB1 := W_hid (hone.out _ _ hb1 hB0.out)
    replace cR := W_hid (cR.out w1 hd1)
    clear hd1 hb1 hX1 x1 x3
    go_wp2_with fail
    refine cR.out.mono ?_
    rintro e w2 ⟨rfl, hz⟩
    have hfin := W_hid (did_of hB1.out hz (Below.refl _ _))
    clear hz
    go_wp2
    go_ret
    exact ⟨rfl, hfin.out⟩
end Go.Proofs.YtigbjhmodpplbaaGreatDoor

/- Contracts of the document's own Encode and Decode (package haywardref07): for every entry, word and level. -/
namespace Go.Proofs.YtigbjhmodpplbaaGreatDoor
open Go.ChangeShapes Go.WideShapes Go.ChangeAt Go.RowKit
set_option linter.unusedVariables false
set_option linter.unusedSimpArgs false

set_option maxRecDepth 100000 in
set_option maxHeartbeats 1000000 in
theorem rEncode_no (T H : Bool) (P : Int) (F : Nat) (L : Int) (h : ¬ EN.right T H P F L) (w : World) :
    Calls Tryz.prog 59 #[.agg #[.bool T, .bool H, .int .i64 P, .int .u64 F], .int .i64 L] w fun e w' => e = .returned (.tuple #[.int .u64 0, .int .i64 2]) ∧ Below w.heap.size w w' := by
  have hR := W_hid (fun w => rRight_any T H false P F L ⟨fun e => absurd e (by decide), fun e => absurd e h⟩ w)
  clear h
  go_enter Tryz.func59, Tryz.ntmps59
  go_wp2_with fail
  refine (hR.out _).mono ?_
  rintro e w1 ⟨rfl, bel1⟩
  replace bel1 : Below w.heap.size w w1 := ((Below.refl _ _).alloc (Nat.le_refl _) _).trans (bel1.mono (by simp))
  go_wp2
  go_ret2
  exact ⟨rfl, bel1⟩

theorem u64_small (a : Int) (h0 : 0 ≤ a) (h : a < 18446744073709551616) : IntKind.u64.wrap a = a := by rw [IntKind.wrap_u64]; omega

set_option maxRecDepth 100000 in
set_option maxHeartbeats 2000000 in
theorem rEncode_yes (T H : Bool) (P : Int) (F : Nat) (L : Int) (h : EN.right T H P F L) (w : World) :
    Calls Tryz.prog 59 #[.agg #[.bool T, .bool H, .int .i64 P, .int .u64 F], .int .i64 L] w fun e w' => e = .returned (.tuple #[.int .u64 ((EN.wd H P F : Nat) : Int), .int .i64 0]) ∧ Below w.heap.size w w' := by
  have hR := W_hid (fun w => rRight_any T H true P F L ⟨fun e => h, fun e => rfl⟩ w)
  have hF : F < 68719476736 := h.2.2.1
  have hP : EN.perms P := by rcases h.2.2.2 with ⟨-, -, -, e⟩ | ⟨-, e, -⟩; exact .inr (.inr (.inr e)); exact e
  have hW : Hid (((EN.wd H P F : Nat) : Int) = 5 + (F : Int) * 4096 + (if P = 3 ∨ P = 7 then 2 else 0) + (if H = true then 128 else 0) + (if P < 4 then 9223372036854775808 else 0)) := by
    show _ = _
    unfold EN.wd
    split <;> split <;> split <;> simp <;> omega
  clear h
  generalize EN.wd H P F = v at *
  cases H <;> rcases hP with rfl | rfl | rfl | rfl
  all_goals
    go_enter Tryz.func59, Tryz.ntmps59
    go_wp2_with fail
    refine (hR.out _).mono ?_
    rintro e w1 ⟨rfl, bel1⟩
    have b0 := Blk.keep (Blk.new w 117 [.bool T, .bool _, .int .i64 _, .int .u64 (F : Int)] rfl) bel1
    replace bel1 : Below w.heap.size w w1 := ((Below.refl _ _).alloc (Nat.le_refl _) _).trans (bel1.mono (by simp))
    have c1 : w1.cell? ⟨w.heap.size, 1, none⟩ = some _ := b0.cell rfl
    have c2 : w1.cell? ⟨w.heap.size, 2, none⟩ = some _ := b0.cell rfl
    have c3 : w1.cell? ⟨w.heap.size, 3, none⟩ = some (.int .u64 (F : Int)) := b0.cell rfl
    go_wp2
    go_ret2
    refine ⟨?_, bel1⟩
    rw [hW.out]
    simp [IntKind.wrap_u64]
    try omega

/-! ### Decode -/
theorem blk_four {w : World} {g : Nat} {e : TypeId} {v0 v1 v2 v3 u0 u1 u2 u3 : Value} (h : Blk w g e [v0, v1, v2, v3]) :
    Blk ((((w.setCell ⟨g, 0, none⟩ u0).setCell ⟨g, 1, none⟩ u1).setCell ⟨g, 2, none⟩ u2).setCell ⟨g, 3, none⟩ u3) g e [u0, u1, u2, u3] := (((h.set 0 u0).set 1 u1).set 2 u2).set 3 u3

/-- The document's answer is what the word says. -/
theorem bit_if (x i : Nat) : ((WM.bit x i : Nat) : Int) = if decide (WM.bit x i = 1) = true then 1 else 0 := by
  rcases WM.bit_01 x i with h | h <;> rw [h] <;> rfl
theorem cand_perm (x : Nat) (hx : x < 18446744073709551616) : (1 + (if decide (WM.bit x 1 = 1) = true then 2 else 0) + (if decide (WM.bit x 63 = 1) = true then 0 else 4) : Int) = EN.perm x := by
  unfold EN.perm WM.bit
  have h1 : x / 2 ^ 1 % 2 = x / 2 % 2 := rfl
  have h2 : x / 2 ^ 63 % 2 = x / 9223372036854775808 := by rw [show (2 : Nat) ^ 63 = 9223372036854775808 from rfl]; omega
  rw [h1, h2]
  simp only [decide_eq_true_eq]
  split <;> split <;> split <;> omega

end Go.Proofs.YtigbjhmodpplbaaGreatDoor

/- The laws' helper walked: the pages by the words alone. -/
namespace Go.Proofs.YtigbjhmodpplbaaGreatDoor
open Go.ChangeShapes Go.WideShapes Go.ChangeAt Go.RowKit
set_option linter.unusedVariables false
set_option linter.unusedSimpArgs false

/-- What walked answers. -/
def wkM (G : RX.Pags) (va : Nat) : List Value := match RX.pg G va with
  | some (k, f, p) => mapL (va - va % EN.sz (k - 1)) f p (decide (k = 2))
  | none => noMap
def wkB (G : RX.Pags) (va : Nat) : Bool := (RX.pg G va).isSome

end Go.Proofs.YtigbjhmodpplbaaGreatDoor

/- The table of kinds as the rows list it: its cells; and the heap that the program's own initialisers leave meets the condition. -/
namespace Go.Proofs.YtigbjhmodpplbaaGreatDoor
open Go.ChangeShapes Go.WideShapes Go.ChangeAt Go.RowKit
set_option linter.unusedVariables false
set_option linter.unusedSimpArgs false

theorem own_knob : ownKnob Tryz.prog.godebug = none := by kernel_rfl
theorem kinds_named : Tryz.prog.globalNamed "hayward/entry.kinds" = some 0 := by kernel_rfl
theorem kinds_type : (Tryz.prog.globals[0]?).map (·.type) = some 202 := by kernel_rfl

theorem cell_bool {H : Type} {enc : TypeId × Value → H} {W : World} {m b0 : Nat} {s : Nat → Bool} {hl : Bool} {v : Value} {b : Bool} {x : DataW H × List MemPlace} (h : DataW.trod enc Tryz.prog W b0 s hl m 4 [v] = some x) (hx : x.1 = .lit (.bool b)) : v = .bool b := by
  obtain ⟨z, e, rfl⟩ := DataW.trod_bool Tryz.underlying4 h
  simp at hx; subst hx; simpa using e
theorem cell_int {H : Type} {enc : TypeId × Value → H} {W : World} {m b0 : Nat} {s : Nat → Bool} {hl : Bool} {v : Value} {b : Int} {x : DataW H × List MemPlace} (h : DataW.trod enc Tryz.prog W b0 s hl m 3 [v] = some x) (hx : x.1 = .lit (.int .i64 b)) : v = .int .i64 b := by
  obtain ⟨z, e, rfl, -⟩ := DataW.trod_int Tryz.underlying3 h
  simp at hx; subst hx; simpa using e
theorem cell_u64 {H : Type} {enc : TypeId × Value → H} {W : World} {m b0 : Nat} {s : Nat → Bool} {hl : Bool} {v : Value} {b : Int} {x : DataW H × List MemPlace} (h : DataW.trod enc Tryz.prog W b0 s hl m 23 [v] = some x) (hx : x.1 = .lit (.int .u64 b)) : v = .int .u64 b := by
  obtain ⟨z, e, rfl, -⟩ := DataW.trod_int Tryz.underlying23 h
  simp at hx; subst hx; simpa using e

/-- One kind's six cells. -/
theorem kind_cells {H : Type} {enc : TypeId × Value → H} {W : World} {m b0 : Nat} {s : Nat → Bool} {hl : Bool} {v0 v1 v2 v3 v4 v5 : Value} {a b : Bool} {lo hi F S : Int} {x : DataW H × List MemPlace}
    (h : DataW.trod enc Tryz.prog W b0 s hl m 201 [v0, v1, v2, v3, v4, v5] = some x) (hx : x.1 = .agg [.lit (.bool a), .lit (.bool b), .lit (.int .i64 lo), .lit (.int .i64 hi), .lit (.int .u64 F), .lit (.int .u64 S)]) :
    [v0, v1, v2, v3, v4, v5] = [.bool a, .bool b, .int .i64 lo, .int .i64 hi, .int .u64 F, .int .u64 S] := by
  obtain ⟨xs, n, -, rfl, -, hlen, hf⟩ := DataW.trod_struct Tryz.underlying201 h
  match xs, hlen with
  | [y0, y1, y2, y3, y4, y5], _ =>
    have t0 : Tryz.prog.cellsOf 4 = 1 := by kernel_rfl
    have t1 : Tryz.prog.cellsOf 23 = 1 := by kernel_rfl
    have t2 : Tryz.prog.cellsOf 3 = 1 := by kernel_rfl
    have g0 := hf 0 _ rfl
    have g1 := hf 1 _ rfl
    have g2 := hf 2 _ rfl
    have g3 := hf 3 _ rfl
    have g4 := hf 4 _ rfl
    have g5 := hf 5 _ rfl
    simp [t0, t1, t2] at g0 g1 g2 g3 g4 g5
    simp at hx
    obtain ⟨e0, e1, e2, e3, e4, e5⟩ := hx
    rw [cell_bool g0 e0, cell_bool g1 e1, cell_int g2 e2, cell_int g3 e3, cell_u64 g4 e4, cell_u64 g5 e5]

theorem eighteen {l : List Value} (h : l.length = 18) : ∃ a0 a1 a2 a3 a4 a5 b0 b1 b2 b3 b4 b5 c0 c1 c2 c3 c4 c5, l = [a0, a1, a2, a3, a4, a5, b0, b1, b2, b3, b4, b5, c0, c1, c2, c3, c4, c5] := by
  match l, h with
  | [a0, a1, a2, a3, a4, a5, b0, b1, b2, b3, b4, b5, c0, c1, c2, c3, c4, c5], _ => exact ⟨_, _, _, _, _, _, _, _, _, _, _, _, _, _, _, _, _, _, rfl⟩

/-- What the condition gives the walks. -/
theorem kt_of_laid {W : World} (h : laidMetH Tryz.prog [("hayward/entry.kinds", Rows.laid_hayward_entry_kinds)] W) : KT W := by
  rw [MakeChecks.laidMetH_plain _ _ _ (by kernel_rfl)] at h
  obtain ⟨ps, ⟨g0, t0, cs0, f0, p0, q0, hg0, ht0, hv0, hd0, -⟩, -⟩ := h
  obtain rfl := Option.some.inj (kinds_named.symm.trans hg0)
  obtain rfl := Option.some.inj (kinds_type.symm.trans ht0)
  obtain ⟨l⟩ := cs0
  obtain ⟨xs, m1, -, hx1, hlen, hn, hel⟩ := DataW.trod_array Tryz.underlying202 hd0
  rw [show Tryz.prog.cellsOf 202 = 18 from by kernel_rfl] at hlen
  rw [show Tryz.prog.cellsOf 201 = 6 from by kernel_rfl] at hel
  obtain ⟨a0, a1, a2, a3, a4, a5, b0, b1, b2, b3, b4, b5, c0, c1, c2, c3, c4, c5, rfl⟩ := eighteen hlen
  match xs, hn, hx1, hel with
  | [x0, x1, x2], _, hx1, hel =>
    simp only [Prod.mk.injEq] at hx1
    have hx2 := hx1.1
    unfold Rows.laid_hayward_entry_kinds at hx2
    simp only [List.map_cons, List.map_nil, DataW.agg.injEq, List.cons.injEq, and_true] at hx2
    obtain ⟨e0, e1, e2⟩ := hx2
    have k0 := kind_cells (hel 0 (by decide)) e0.symm
    have k1 := kind_cells (hel 1 (by decide)) e1.symm
    have k2 := kind_cells (hel 2 (by decide)) e2.symm
    simp only [List.cons.injEq, and_true] at k0 k1 k2
    obtain ⟨rfl, rfl, rfl, rfl, rfl, rfl⟩ := k0
    obtain ⟨rfl, rfl, rfl, rfl, rfl, rfl⟩ := k1
    obtain ⟨rfl, rfl, rfl, rfl, rfl, rfl⟩ := k2
    unfold World.var? at hv0
    rw [kinds_named] at hv0
    simp only [Option.bind_some] at hv0
    split at hv0
    · rename_i cs t fr heq
      cases hv0
      exact ⟨t, fr, heq⟩
    · cases hv0

/-- The heap that the program's own initialisers leave meets the condition. -/
theorem kinds_met (os : Os) (args : Array Value) : laidMetH Tryz.prog [("hayward/entry.kinds", Rows.laid_hayward_entry_kinds)] ((World.doorLaid Tryz.prog 400 os).forCall (fun _ _ => 0) ⟨#[], args, []⟩).memory :=
  laidMetH_of_parts3 (fuel := 8) (laidMet_of_run' 8 (by kernel_rfl) (by kernel_rfl)) (by kernel_rfl) (by kernel_rfl)

end Go.Proofs.YtigbjhmodpplbaaGreatDoor

/- The laws of layer 8, continued: what those with calls share (open_ops8), and RadixLeads: for every input it returns true, and its arguments read as before. What the row lists of package variables is tied to the program's text by the card; no further condition. -/
namespace Go.Proofs.YtigbjhmodpplbaaGreatDoor
open Go.ChangeShapes Go.WideShapes Go.ChangeAt Go.RowKit
set_option linter.unusedVariables false
set_option linter.unusedSimpArgs false

/-- A call: kind, address, frame, permissions, large. -/
abbrev OpT := Int × Nat × Nat × Int × Bool
def OpFit (x : OpT) : Prop := -9223372036854775808 ≤ x.1 ∧ x.1 ≤ 9223372036854775807 ∧ x.2.1 < 18446744073709551616 ∧ x.2.2.1 < 18446744073709551616 ∧ -9223372036854775808 ≤ x.2.2.2.1 ∧ x.2.2.2.1 ≤ 9223372036854775807
/-- What the walk is told of a slice of calls that came in. -/
def OS8 (w : World) (a : Option Addr) (len cap : Nat) (l : List OpT) : Prop :=
  len ≤ maxLen ∧ l.length = len ∧ ∀ j (hj : j < l.length), ∃ blk off, a = some ⟨blk, off, none⟩ ∧ blk < w.heap.size ∧ w.cell? ⟨blk, off + j * 5, none⟩ = some (.int .i64 l[j].1) ∧
    w.cell? ⟨blk, off + j * 5 + 1, none⟩ = some (.int .u64 (l[j].2.1 : Int)) ∧ w.cell? ⟨blk, off + j * 5 + 2, none⟩ = some (.int .u64 (l[j].2.2.1 : Int)) ∧ w.cell? ⟨blk, off + j * 5 + 3, none⟩ = some (.int .i64 l[j].2.2.2.1) ∧ w.cell? ⟨blk, off + j * 5 + 4, none⟩ = some (.bool l[j].2.2.2.2) ∧ OpFit l[j]

set_option maxRecDepth 100000 in
theorem open_ops8 {H : Type} {enc : TypeId × Value → H} {W : World} {r : Reach} {b0 : Nat} {v : Value} {d : DataW H} {p : List MemPlace} (hv : Value.okWide Tryz.prog W r b0 22 v)
    (h : DataW.Trod enc Tryz.prog W 0 (fun _ => true) true 22 v d p) :
    ∃ (ao : Option Addr) (n cap : Nat) (l : List OpT), v = .slice ao n cap ∧ OS8 W ao n cap l := by
  obtain ⟨a, len, cap, rfl⟩ := okWide_slice Tryz.underlying22 hv
  obtain ⟨fuel, hf⟩ := h
  rcases Deep.open_slice Tryz.underlying22 hf with ⟨e1, -⟩ | ⟨x, len', cap', m, n, D, Pl, e1, hb, hl, hm, hmm, -, hx⟩
  · simp [Value.cells] at e1
    obtain ⟨rfl, rfl, rfl⟩ := e1
    exact ⟨none, 0, 0, [], rfl, Nat.zero_le _, rfl, fun j hj => by simp at hj⟩
  · simp [Value.cells] at e1
    obtain ⟨rfl, rfl, rfl⟩ := e1
    have hlm : len ≤ m := by rw [hmm]; split <;> omega
    have each : ∀ i, i < len → ∃ q : OpT, W.cell? (x.add (i * 5)) = some (.int .i64 q.1) ∧ W.cell? (x.add (i * 5 + 1)) = some (.int .u64 (q.2.1 : Int)) ∧ W.cell? (x.add (i * 5 + 2)) = some (.int .u64 (q.2.2.1 : Int)) ∧ W.cell? (x.add (i * 5 + 3)) = some (.int .i64 q.2.2.2.1) ∧ W.cell? (x.add (i * 5 + 4)) = some (.bool q.2.2.2.2) ∧ OpFit q := by
      intro i hi
      obtain ⟨cs', h1, h2⟩ := hx i (by omega)
      rw [show Tryz.prog.cellsOf 40 = 5 from by kernel_rfl] at h1
      obtain ⟨_, hlen, hcell⟩ := World.cells?_some h1
      obtain ⟨xs, k, hk, hxy, _, hxl, hff⟩ := DataW.trod_struct Tryz.underlying40 h2
      match xs, hxl, cs', hlen with
      | [x0, x1], _, [v0, v1, v2, v3, v4], _ =>
        have g0 := hff 0 _ rfl
        have gg := hff 1 _ rfl
        have t0 : Tryz.prog.cellsOf 4 = 1 := by kernel_rfl
        have t1 : Tryz.prog.cellsOf 23 = 1 := by kernel_rfl
        have t2 : Tryz.prog.cellsOf 3 = 1 := by kernel_rfl
        have t3 : Tryz.prog.cellsOf 38 = 4 := by kernel_rfl
        simp [t2, t3] at g0 gg
        obtain ⟨xs2, k2, hk2, hxy2, _, hxl2, hff2⟩ := DataW.trod_struct Tryz.underlying38 gg
        match xs2, hxl2 with
        | [y1, y2, y3, y4], _ =>
        have g1 := hff2 0 _ rfl
        have g2 := hff2 1 _ rfl
        have g3 := hff2 2 _ rfl
        have g4 := hff2 3 _ rfl
        simp [t0, t1, t2] at g1 g2 g3 g4
        have e0 := hcell 0 (by omega)
        have e1 := hcell 1 (by omega)
        have e2 := hcell 2 (by omega)
        have e3 := hcell 3 (by omega)
        have e4 := hcell 4 (by omega)
        rw [Deep.add_add] at e0 e1 e2 e3 e4
        obtain ⟨z0, q0, -, b0⟩ := DataW.trod_int Tryz.underlying3 g0
        obtain ⟨z1, q1, -, b1⟩ := DataW.trod_int Tryz.underlying23 g1
        obtain ⟨z2, q2, -, b2⟩ := DataW.trod_int Tryz.underlying23 g2
        obtain ⟨z3, q3, -, b3⟩ := DataW.trod_int Tryz.underlying3 g3
        obtain ⟨z4, q4, -⟩ := DataW.trod_bool Tryz.underlying4 g4
        have b0' := bounds_i64 b0
        have b1' := bounds_u64 b1
        have b2' := bounds_u64 b2
        have b3' := bounds_i64 b3
        simp at q0 q1 q2 q3 q4
        subst q0 q1 q2 q3 q4
        obtain ⟨y, rfl⟩ : ∃ y : Nat, z1 = y := ⟨z1.toNat, by omega⟩
        obtain ⟨z, rfl⟩ : ∃ z : Nat, z2 = z := ⟨z2.toNat, by omega⟩
        exact ⟨(z0, y, z, z3, z4), by simpa using e0, by simpa using e1, by simpa using e2, by simpa using e3, by simpa using e4, b0'.1, b0'.2, (by show y < _; omega), (by show z < _; omega), b3'.1, b3'.2⟩
    have key : ∀ k, k ≤ len → ∃ l : List OpT, l.length = k ∧ ∀ j (hj : j < l.length), W.cell? (x.add (j * 5)) = some (.int .i64 l[j].1) ∧ W.cell? (x.add (j * 5 + 1)) = some (.int .u64 (l[j].2.1 : Int)) ∧ W.cell? (x.add (j * 5 + 2)) = some (.int .u64 (l[j].2.2.1 : Int)) ∧ W.cell? (x.add (j * 5 + 3)) = some (.int .i64 l[j].2.2.2.1) ∧ W.cell? (x.add (j * 5 + 4)) = some (.bool l[j].2.2.2.2) ∧ OpFit l[j] := by
      intro k
      induction k with
      | zero => exact fun _ => ⟨[], rfl, fun j hj => by simp at hj⟩
      | succ k ih =>
        intro hk
        obtain ⟨l, h1, h2⟩ := ih (by omega)
        obtain ⟨q, hq⟩ := each k (by omega)
        refine ⟨l ++ [q], by simp [h1], fun j hj => ?_⟩
        by_cases hjl : j < l.length
        · rw [List.getElem_append_left hjl]; exact h2 j hjl
        · have : j = k := by simp at hj; omega
          subst this
          rw [List.getElem_append_right (by omega)]
          simpa [h1] using hq
    obtain ⟨l, h1, h2⟩ := key len (Nat.le_refl _)
    refine ⟨some x, len, cap, l, rfl, Nat.le_trans hl hm, h1, fun j hj => ?_⟩
    obtain ⟨c0, c1, c2, c3, c4, hbn⟩ := h2 j hj
    obtain ⟨b, off, spot⟩ := x
    have h0 := (h2 0 (by omega)).1
    have hs : spot = none := by simpa [Addr.add] using World.cell?_spot h0
    subst hs
    rw [Addr.add_lit] at c0 c1 c2 c3 c4
    exact ⟨b, off, rfl, cell_lt c0, c0, by rw [← Nat.add_assoc] at c1; exact c1, by rw [← Nat.add_assoc] at c2; exact c2, by rw [← Nat.add_assoc] at c3; exact c3, by rw [← Nat.add_assoc] at c4; exact c4, hbn⟩

/-- Both trees, new. -/
theorem ds_new {w w' : World} {g pg pb n m b g2 pg2 pb2 : Nat} {M : Nat → Option (Nat → Nat)} {tv : Value} {D : List Nat} (hn : 1 ≤ n) (hF : Full w g pg pb n m (T0 n) 0 b M (F0 0) G0) (hd : DM w' D g2 pg2 pb2 n (FR.st (fresh n) 0 1 true) (.slice none 0 0) tv [] [(0, 4, 0)])
    (hb : Below w.heap.size w w') (hD : ∀ x ∈ D, w.heap.size ≤ x) : ∃ D2, (∀ x ∈ D2, w.heap.size ≤ x) ∧ DS w' g pg pb n m 0 b D2 g2 pg2 pb2 (T0 n) (T0 n) (F0 0) (F0 0) G0 G0 0 := by
  obtain ⟨D2, a1, a2, a3⟩ := hd.own_lt
  have hl := hF.lts
  have hf : ∀ {l j f}, F0 0 l j = some f → l = 4 ∧ j = 0 ∧ f = 0 := by
    intro l j f h
    unfold F0 at h
    split at h
    · rename_i hc
      simp only [Option.some.injEq] at h
      omega
    · cases h
  refine ⟨D2, fun x hx => hD x (a1 x hx), ⟨M, hF.keep hb⟩, ⟨_, _, _, _, a3, ⟨List.Pairwise.nil, fun x => ⟨fun h => by simp at h, ?_⟩⟩, ⟨rfl, by simp, fun x => ⟨fun h => ?_, ?_⟩⟩, Nat.zero_le _, Nat.le_refl _⟩, ⟨fun l j f h hl => by have := hf h; omega, fun f hfn hT => ⟨4, 0, ?_⟩⟩, fun x hx => ?_, a2⟩
  · rintro ⟨k, -, -, hI⟩
    have := hI.1
    simp [G0] at this
  · simp only [List.mem_singleton] at h
    subst h
    exact ⟨0, rfl, by simp⟩
  · rintro ⟨j, h1, h2⟩
    obtain ⟨e1, e2, e3⟩ := hf h1
    obtain ⟨x1, x2, x3⟩ := x
    simp only at e1 e2 e3 h2
    subst e1 e2 e3
    simp [h2]
  · have : f = 0 := by
      apply Classical.byContradiction
      intro hne
      have e : T0 n f = fresh n f := by unfold T0 FR.st; rw [if_neg (by omega)]
      rw [e, fresh_lt hfn] at hT
      cases hT
    rw [this]; rfl
  · have := hD x (a1 x hx)
    omega

/-- The page of an address in a page. -/
theorem pg_is {F : RX.Tabs} {G : RX.Pags} {r n k va : Nat} {x : RX.Pg} (I : RX.Inv F G r n) (h : RX.Is G k x) (hk : 1 ≤ k ∧ k ≤ 2) (hv : va / EN.sz (k - 1) = x.1 / EN.sz (k - 1)) : RX.pg G va = some (k, x.2.1, x.2.2.1) := by
  have h0 := h.1
  rw [← hv] at h0
  have : k = 1 ∨ k = 2 := by omega
  rcases this with rfl | rfl
  · unfold RX.pg; rw [show (1 : Nat) - 1 = 0 from rfl] at h0; rw [h0]
  · rw [show (2 : Nat) - 1 = 1 from rfl] at h0
    have h1 : G 1 (va / EN.sz 0) = none := by
      cases hc : G 1 (va / EN.sz 0) with
      | none => rfl
      | some z =>
        obtain ⟨y, hy⟩ := I.way hc
        have e := RX.sz_down va 1 (Nat.le_refl _)
        rw [show (1 : Nat) - 1 = 0 from rfl] at e
        rw [e, I.apart h0] at hy
        cases hy
    unfold RX.pg
    rw [h1]
    simp only [h0]
/-- A page of the list: the page of its last address is that page. -/
theorem wk_last {F : RX.Tabs} {G : RX.Pags} {r n : Nat} {x : RX.Pg} (I : RX.Inv F G r n) (hx : x ∈ RX.und F G 4 0) : x.1 + RX.psz x.2.2.2 - 1 < 140737488355328 ∧ x.1 < 140737488355328 ∧ x.2.1 < 68719476736 ∧ wkB G (x.1 + RX.psz x.2.2.2 - 1) = true ∧ wkM G (x.1 + RX.psz x.2.2.2 - 1) = pgc x := by
  obtain ⟨k, k1, k2, hI, -⟩ := (RX.mem_und I 4 0 (Nat.le_refl _) ⟨r, I.root⟩ x).1 hx
  obtain ⟨t1, t2, t3, t4, t5⟩ := RX.is_top I hI
  have hps : RX.psz x.2.2.2 = EN.sz (k - 1) := by rw [hI.2.1]; exact RX.psz_lv k ⟨t1, t2⟩
  have hs := EN.sz_pos (k - 1)
  have hq : (x.1 + RX.psz x.2.2.2 - 1) / EN.sz (k - 1) = x.1 / EN.sz (k - 1) := by
    rw [hps]
    obtain ⟨q, hq⟩ : ∃ q, x.1 / EN.sz (k - 1) = q := ⟨_, rfl⟩
    rw [hq] at t5 ⊢
    rw [← t5, show q * EN.sz (k - 1) + EN.sz (k - 1) - 1 = (EN.sz (k - 1) - 1) + q * EN.sz (k - 1) by omega, Nat.add_mul_div_right _ _ hs, Nat.div_eq_of_lt (by omega), Nat.zero_add]
  have hp := pg_is I hI ⟨t1, t2⟩ hq
  have hlt : x.1 + RX.psz x.2.2.2 - 1 < 140737488355328 := by
    have hm := hI.2.2
    rw [hps]
    have : k = 1 ∨ k = 2 := by omega
    rcases this with rfl | rfl
    · have e : EN.sz (1 - 1) = 4096 := by decide
      rw [e] at hm ⊢; omega
    · have e : EN.sz (2 - 1) = 2097152 := by decide
      rw [e] at hm ⊢; omega
  have hmd : x.1 + RX.psz x.2.2.2 - 1 - (x.1 + RX.psz x.2.2.2 - 1) % EN.sz (k - 1) = x.1 := by
    have := Nat.div_add_mod (x.1 + RX.psz x.2.2.2 - 1) (EN.sz (k - 1))
    rw [hq, Nat.mul_comm, t5] at this
    omega
  refine ⟨hlt, t3, (I.page hI.1).2.2.1.2.2.1, by unfold wkB; rw [hp]; rfl, ?_⟩
  unfold wkM
  rw [hp]
  simp only [hmd]
  unfold mapL pgc
  rw [hI.2.1]

end Go.Proofs.YtigbjhmodpplbaaGreatDoor

namespace Go.Proofs.YtigbjhmodpplbaaGreatDoor
open Go.ChangeShapes Go.WideShapes Go.ChangeAt Go.RowKit
set_option linter.unusedVariables false
set_option linter.unusedSimpArgs false

theorem page_perms {F : RX.Tabs} {G : RX.Pags} {r n k c f : Nat} {p : Int} (I : RX.Inv F G r n) (h : G k c = some (f, p)) : EN.perms p := by
  have := (I.page h).2.2.1.2.2.2
  rcases this with ⟨h, -⟩ | ⟨-, h, -⟩
  · cases h
  · exact h
/-- An address of no page, of a page: what walked and Walk say. -/
theorem wk_cases {F : RX.Tabs} {G : RX.Pags} {r n : Nat} (I : RX.Inv F G r n) (va : Nat) :
    (wkB G va = false ∧ wkM G va = noMap ∧ walkC G va 0 = 26) ∨
    ∃ (q f : Nat) (p : Int) (hu : Bool), q ≤ va ∧ f < 68719476736 ∧ va - q < 2097152 ∧ wkB G va = true ∧ wkM G va = mapL q f p hu ∧ walkC G va 0 = 0 ∧ walkA G va 0 = 4096 * f + (va - q) := by
  have hx : ∀ {k f : Nat} {p : Int}, RX.pg G va = some (k, f, p) → ∃ c, G k c = some (f, p) := by
    intro k f p h
    unfold RX.pg at h
    split at h
    · rename_i f' p' hc
      simp only [Option.some.injEq, Prod.mk.injEq] at h
      obtain ⟨rfl, rfl, rfl⟩ := h
      exact ⟨_, hc⟩
    · split at h
      · rename_i f' p' hc
        simp only [Option.some.injEq, Prod.mk.injEq] at h
        obtain ⟨rfl, rfl, rfl⟩ := h
        exact ⟨_, hc⟩
      · cases h
  cases hp : RX.pg G va with
  | none => exact .inl ⟨by unfold wkB; rw [hp]; rfl, by unfold wkM; rw [hp], by unfold walkC; rw [hp]⟩
  | some t =>
    obtain ⟨k, f, p⟩ := t
    obtain ⟨c, hc⟩ := hx hp
    have hpp := page_perms I hc
    have hbt : (bits BinOp.andNot IntKind.i64 0 p != 0) = false := by
      unfold EN.perms at hpp
      rcases hpp with rfl | rfl | rfl | rfl <;> decide
    have hI := I.page hc
    have hs := EN.sz_pos (k - 1)
    have hml := Nat.mod_lt va hs
    have hle := Nat.mod_le va (EN.sz (k - 1))
    have hsz : EN.sz (k - 1) ≤ 2097152 := by
      have : k = 1 ∨ k = 2 := by omega
      rcases this with rfl | rfl <;> decide
    refine .inr ⟨va - va % EN.sz (k - 1), f, p, decide (k = 2), by omega, hI.2.2.1.2.2.1, by omega, by unfold wkB; rw [hp]; rfl, by unfold wkM; rw [hp], by unfold walkC; rw [hp]; simp only [hbt]; rfl, ?_⟩
    unfold walkA
    rw [hp]
    simp only [hbt]
    rw [show va - (va - va % EN.sz (k - 1)) = va % EN.sz (k - 1) by omega]
    rfl

/-- A page's cells in a row of pages. -/
theorem row_page {w : World} {base : Nat} {v : Value} {L : List RX.Pg} (h : w.ownsRow base 38 4 v L.length (pcl L)) {i : Nat} (hi : i < L.length) : ∃ b o cap, v = .slice (some ⟨b, o, none⟩) L.length cap ∧
    w.cell? ⟨b, o + i * 4, none⟩ = some (.int .u64 (L[i].1 : Int)) ∧ w.cell? ⟨b, o + i * 4 + 1, none⟩ = some (.int .u64 (L[i].2.1 : Int)) ∧ w.cell? ⟨b, o + i * 4 + 2, none⟩ = some (.int .i64 L[i].2.2.1) ∧ w.cell? ⟨b, o + i * 4 + 3, none⟩ = some (.bool L[i].2.2.2) := by
  obtain ⟨b, o, cap, hv, h1, h2, -, -, hc, -⟩ := own_cells h (by omega)
  have key : ∀ m v, m < 4 → (pgc L[i])[m]? = some v → w.cell? ⟨b, o + (i * 4 + m), none⟩ = some v := fun m v hm hv => hc _ _ ((flat_get pgc 4 pgc_len L i m hi hm).trans hv)
  exact ⟨b, o, cap, hv, key 0 _ (by omega) rfl, key 1 _ (by omega) rfl, key 2 _ (by omega) rfl, key 3 _ (by omega) rfl⟩
/-- The world of a call, told by its form alone (with_reducible refine: fails at once where the form is another). -/
theorem at_drew {P : Program} {f : FuncId} {a : Array Value} {W : World} {Q : Ending → World → Prop} (h : Calls P f a W.drew Q) : Calls P f a W.drew Q := h
theorem at_alloc {P : Program} {f : FuncId} {a : Array Value} {W : World} {o : Obj} {Q : Ending → World → Prop} (h : Calls P f a (W.alloc o) Q) : Calls P f a (W.alloc o) Q := h
theorem psz_b (h : Bool) : 1 ≤ RX.psz h ∧ RX.psz h ≤ 2097152 := by cases h <;> decide

end Go.Proofs.YtigbjhmodpplbaaGreatDoor
