/- Stage 18, the document: machines in memory; Live, Cell, At, Reg. -/
import Derived.Test.YtjafjjfcmcpaoaaMmMake
import Derived.Test.YtjafjjfcmcpaoaaRefMm
namespace Go.Proofs.Ytjafjjfcmcpaoaa
open Go.ChangeShapes Go.WideShapes Go.ChangeAt Go.RowKit
set_option linter.unusedVariables false
set_option linter.unusedSimpArgs false
set_option maxRecDepth 100000
namespace MC
open IN (lt_of_some)

/-- The document's machine in memory. -/
structure DMg (lo a b : Nat) (w : World) (gm gc : Nat) (vt : Value) (S : Ma) (L : List (Value × Th)) : Prop where
  raw : Raw TU lo a b w gc vt S.c L
  box : Blk w gm TD [.slice (some ⟨gc, 0, none⟩) S.c.length S.c.length, vt]
  gm1 : a ≤ gm
  gm2 : gm < b
  lt : L.map Prod.snd = S.t
def DW (lo a b : Nat) (w : World) (gm : Nat) (S : Ma) : Prop := ∃ gc vt L, DMg lo a b w gm gc vt S L
section
variable {lo a b : Nat} {w w' : World} {gm gc : Nat} {vt : Value} {S : Ma} {L : List (Value × Th)}
theorem DMg.moved (h : DMg lo a b w gm gc vt S L) (hs : w.heap.size ≤ w'.heap.size) (hk : ∀ k, k < lo ∨ (a ≤ k ∧ k < b) → w'.heap[k]? = w.heap[k]?) : DMg lo a b w' gm gc vt S L :=
  ⟨h.raw.moved hs hk, (hk gm (.inr ⟨h.gm1, h.gm2⟩)).trans h.box, h.gm1, h.gm2, h.lt⟩
theorem DMg.keep (h : DMg lo a b w gm gc vt S L) (hb : Below w.heap.size w w') : DMg lo a b w' gm gc vt S L :=
  h.moved hb.size fun k hk => hb.block k (by have := h.raw.top; have := h.raw.lo; have := h.gm1; have := h.gm2; omega)
theorem DW.keep (h : DW lo a b w gm S) (hb : Below w.heap.size w w') : DW lo a b w' gm S := by
  obtain ⟨gc, vt, L, h⟩ := h
  exact ⟨gc, vt, L, h.keep hb⟩
theorem DW.win {a' b' : Nat} (h : DW lo a b w gm S) (hw : Win a' b' w w') (hd : b ≤ a' ∨ b' ≤ a) (hl : lo ≤ a') : DW lo a b w' gm S := by
  obtain ⟨gc, vt, L, h⟩ := h
  exact ⟨gc, vt, L, h.moved hw.size fun k hk => hw.block k (by have := h.raw.top; have := h.raw.lo; have := h.gm1; have := h.gm2; omega) (by omega)⟩
theorem DMg.at_ (h : DMg lo a b w gm gc vt S L) {i : Nat} {t : Th} (hi : S.t[i]? = some t) : ∃ v, L[i]? = some (v, t) := by
  rw [← h.lt, List.getElem?_map] at hi
  rcases e : L[i]? with _ | ⟨v, u⟩
  · rw [e] at hi; cases hi
  · rw [e] at hi
    simp only [Option.map_some, Option.some.injEq] at hi
    subst hi
    exact ⟨v, rfl⟩
theorem DMg.tnum (h : DMg lo a b w gm gc vt S L) : L.length = S.t.length := by rw [← h.lt]; simp
theorem rCell_any (h : DW lo a b w gm S) (i : Int) : Calls Try.prog 20 #[ptr gm, .int .i64 i] w fun e w' => e = .returned (.int .i64 (cellM S i)) ∧ w = w' := by
  obtain ⟨gc, vt, L, h⟩ := h
  have m0 := h.box.cell (j := 0) rfl
  unfold cellM hasC
  obtain ⟨N, hN⟩ : ∃ N, S.c.length = N := ⟨_, rfl⟩
  rw [hN] at m0 ⊢
  by_cases h0 : i < 0
  · rw [if_neg (by simp; omega)]
    clear h
    go_enter Try.func20, Try.ntmps20
    go_wp2_with fail
    go_ret
    exact ⟨rfl, rfl⟩
  · by_cases h1 : (N : Int) ≤ i
    · rw [if_neg (by simp; omega)]
      clear h
      go_enter Try.func20, Try.ntmps20
      go_wp2_with fail
      go_ret
      exact ⟨rfl, rfl⟩
    · rw [if_pos (by simp; omega)]
      obtain ⟨q, rfl⟩ : ∃ q : Nat, i = q := ⟨i.toNat, by omega⟩
      rw [gt_nat]
      have kc : w.cell? ⟨gc, q, none⟩ = some (.int .i64 (S.c.getD q 0)) := h.raw.cel.cell (by rw [icl_get, List.getD_eq_getElem?_getD, List.getElem?_eq_getElem (by omega)]; rfl)
      obtain ⟨X, hX⟩ : ∃ X, S.c.getD q 0 = X := ⟨_, rfl⟩
      rw [hX] at kc ⊢
      have hq2 : (q : Int) < (N : Int) := by omega
      clear h hN hX
      go_enter Try.func20, Try.ntmps20
      go_wp2_with fail
      go_ret
      exact ⟨rfl, rfl⟩
theorem rAt_any (h : DW lo a b w gm S) (t : Int) : Calls Try.prog 15 #[ptr gm, .int .i64 t] w fun e w' => e = .returned (.int .i64 (atM S t)) ∧ w = w' := by
  obtain ⟨gc, vt, L, h⟩ := h
  have m1 := h.box.cell (j := 1) rfl
  have hLn := h.tnum
  obtain ⟨ao, cp, rfl⟩ := Own.form h.raw.thr
  unfold atM thM
  obtain ⟨n, hn⟩ : ∃ n, L.length = n := ⟨_, rfl⟩
  rw [hn] at m1 hLn
  by_cases h0 : t < 0
  · rw [if_pos h0]
    clear h
    go_enter Try.func15, Try.ntmps15
    go_wp2_with fail
    go_ret
    exact ⟨rfl, rfl⟩
  · rw [if_neg h0]
    obtain ⟨k, rfl⟩ : ∃ k : Nat, t = k := ⟨t.toNat, by omega⟩
    rw [Int.toNat_natCast]
    by_cases h1 : k < n
    · obtain ⟨u, hu⟩ : ∃ u, S.t[k]? = some u := ⟨_, List.getElem?_eq_getElem (by omega)⟩
      obtain ⟨v, hv⟩ := h.at_ hu
      rw [hu]
      obtain ⟨g, cap, hvt, hLc, hcap, hiL, hga, hgb, hT⟩ := h.raw.opened hv
      simp only [Value.slice.injEq, true_and] at hvt
      obtain ⟨rfl, rfl⟩ := hvt
      have q9 := hT.pc
      have h1' : (k : Int) < (n : Int) := by omega
      simp only [Option.elim_some]
      clear h hT hv hu h0 h1 hLn hn
      go_enter Try.func15, Try.ntmps15
      go_wp2_with fail
      go_ret
      exact ⟨rfl, rfl⟩
    · have h1' : (n : Int) ≤ (k : Int) := by omega
      rw [List.getElem?_eq_none (by omega)]
      clear h h0 h1 hLn hn
      go_enter Try.func15, Try.ntmps15
      go_wp2_with fail
      go_ret
      exact ⟨rfl, rfl⟩
theorem rReg_any (h : DW lo a b w gm S) (t i : Int) : Calls Try.prog 22 #[ptr gm, .int .i64 t, .int .i64 i] w fun e w' => e = .returned (.int .i64 (regM S t i)) ∧ w = w' := by
  obtain ⟨gc, vt, L, h⟩ := h
  have m1 := h.box.cell (j := 1) rfl
  have hLn := h.tnum
  obtain ⟨ao, cp, rfl⟩ := Own.form h.raw.thr
  unfold regM thM isR
  obtain ⟨n, hn⟩ : ∃ n, L.length = n := ⟨_, rfl⟩
  rw [hn] at m1 hLn
  by_cases h0 : t < 0
  · have e : (if decide (0 ≤ i ∧ i < 8) = true then ((if t < 0 then none else S.t[t.toNat]?) : Option Th).elim 0 (fun h => gt h.r i) else 0) = 0 := by rw [if_pos h0]; split <;> rfl
    rw [e]
    clear h e
    go_enter Try.func22, Try.ntmps22
    go_wp2_with fail
    go_ret
    exact ⟨rfl, rfl⟩
  · obtain ⟨k, rfl⟩ : ∃ k : Nat, t = k := ⟨t.toNat, by omega⟩
    by_cases h1 : k < n
    · have h1' : (k : Int) < (n : Int) := by omega
      by_cases h2 : i < 0
      · rw [if_neg (by simp; omega)]
        clear h
        go_enter Try.func22, Try.ntmps22
        go_wp2_with fail
        go_ret
        exact ⟨rfl, rfl⟩
      · by_cases h3 : 7 < i
        · rw [if_neg (by simp; omega)]
          clear h
          go_enter Try.func22, Try.ntmps22
          go_wp2_with fail
          go_ret
          exact ⟨rfl, rfl⟩
        · rw [if_pos (by simp; omega), if_neg h0, Int.toNat_natCast]
          obtain ⟨q, rfl⟩ : ∃ q : Nat, i = q := ⟨i.toNat, by omega⟩
          have hq8 : (q : Int) < 8 := by omega
          obtain ⟨u, hu⟩ : ∃ u, S.t[k]? = some u := ⟨_, List.getElem?_eq_getElem (by omega)⟩
          obtain ⟨v, hv⟩ := h.at_ hu
          rw [hu]
          obtain ⟨g, cap, hvt, hLc, hcap, hiL, hga, hgb, hT⟩ := h.raw.opened hv
          simp only [Value.slice.injEq, true_and] at hvt
          obtain ⟨rfl, rfl⟩ := hvt
          have qr := hT.r q (by omega)
          simp only [Option.elim_some, gt_nat]
          obtain ⟨X, hX⟩ : ∃ X, u.r.getD q 0 = X := ⟨_, rfl⟩
          rw [hX] at qr ⊢
          clear h hT hv hu h0 h1 hLn hn hX
          go_enter Try.func22, Try.ntmps22
          go_wp2_with fail
          go_ret
          exact ⟨rfl, rfl⟩
    · have h1' : (n : Int) ≤ (k : Int) := by omega
      have e : (if decide (0 ≤ i ∧ i < 8) = true then ((if (k : Int) < 0 then none else S.t[(k : Int).toNat]?) : Option Th).elim 0 (fun h => gt h.r i) else 0) = 0 := by rw [if_neg h0, Int.toNat_natCast, List.getElem?_eq_none (by omega)]; split <;> rfl
      rw [e]
      clear h e h0 h1 hLn hn
      go_enter Try.func22, Try.ntmps22
      go_wp2_with fail
      go_ret
      exact ⟨rfl, rfl⟩
set_option maxRecDepth 100000 in
set_option maxHeartbeats 4000000 in
theorem rLive_any (h : DW lo a b w gm S) (hS : S.t.length ≤ 64) : Calls Try.prog 18 #[ptr gm] w fun e w' => ∃ v, e = .returned v ∧ w'.ownsRow w.heap.size TI 1 v (live S.t).length (ncl (live S.t)) ∧ Below w.heap.size w w' := by
  obtain ⟨gc, vt, L, h⟩ := h
  have m1 := h.box.cell (j := 1) rfl
  have hgl := h.box.lt
  have hLn := h.tnum
  obtain ⟨ao, cp, rfl⟩ := Own.form h.raw.thr
  obtain ⟨n, hn⟩ : ∃ n, L.length = n := ⟨_, rfl⟩
  rw [hn] at m1 hLn
  have hn64 : n ≤ 64 := by omega
  replace h := W_hid h
  replace hn := W_hid hn
  replace hLn := W_hid hLn
  go_enter Try.func18, Try.ntmps18
  go_wp2_with fail
  go_loopw [3, 4] (fun v i wr => ∃ (k : Nat), i = .int .i64 (k : Int) ∧ k ≤ n ∧ Hid (wr.ownsRow w.heap.size TI 1 v (live (S.t.take k)).length (ncl (live (S.t.take k)))) ∧ Hid (Below w.heap.size w wr)) (fun _ i _ => n - (intOf i).toNat)
  case atStart => exact ⟨0, rfl, Nat.zero_le _, W_hid (World.ownsRow_nil _ _ _ _), W_hid (Below.refl _ _)⟩
  case round =>
    obtain ⟨k, rfl, hkn, hor, hB⟩ := hrel
    obtain ⟨lo', lc, rfl⟩ := Own.form hor.out
    obtain ⟨ln, hln⟩ : ∃ ln, (live (S.t.take k)).length = ln := ⟨_, rfl⟩
    have m1r : wr.cell? ⟨gm, 1, none⟩ = some (.slice ao n cp) := by rw [World.cell?_of_block (w := w) (hB.out.block gm hgl)]; exact m1
    rw [hln] at hor ⊢
    replace hln := W_hid hln
    by_cases hlt : k < n
    · obtain ⟨u, hu⟩ : ∃ u, S.t[k]? = some u := ⟨_, List.getElem?_eq_getElem (by have := hLn.out; omega)⟩
      obtain ⟨v, hv⟩ := h.out.at_ hu
      obtain ⟨pao, pcap, hvf⟩ := h.out.raw.vform hv
      simp only at hvf
      obtain ⟨pn, hpn⟩ : ∃ x, u.p.length = x := ⟨_, rfl⟩
      rw [hpn] at hvf
      subst hvf
      obtain ⟨g, cap, hvt, hLc, hcap, hiL, hga, hgb, hT0⟩ := h.out.raw.opened hv
      simp only [Value.slice.injEq, true_and] at hvt
      obtain ⟨rfl, rfl⟩ := hvt
      have hT := hT0.below hB.out
      obtain ⟨pc, hpc⟩ : ∃ x, u.pc = x := ⟨_, rfl⟩
      have q9 := hT.pc
      have q0 := hT.p
      rw [hpc] at q9
      have hkp : IntKind.i64.wrap ((k : Int) + 1) = ((k + 1 : Nat) : Int) := by rw [IntWalk.i64_in _ (by omega)]; omega
      have hi1 : (k : Int) < (n : Int) := by omega
      have hon : on u = decide (0 ≤ pc ∧ pc < (pn : Int)) := by unfold on; rw [hpc, hpn]
      have hlv : live (S.t.take (k + 1)) = live (S.t.take k) ++ (if on u = true then [k] else []) := by
        have hk : k < S.t.length := by have := hLn.out; omega
        rw [List.take_succ_eq_append_getElem hk, live_push]
        have e : S.t[k] = u := by rw [List.getElem?_eq_getElem hk] at hu; exact Option.some.inj hu
        rw [e, List.length_take, Nat.min_eq_left (by omega)]
      have hlnk : ln ≤ 64 := by have := hln.out; have := live_len (S.t.take k); rw [List.length_take] at this; omega
      have hBs := hB.out.size
      replace hlv := W_hid hlv
      replace hon := W_hid hon
      replace hpn := W_hid hpn
      replace hpc := W_hid hpc
      replace hkp := W_hid hkp
      replace hu := W_hid hu
      replace hv := W_hid hv
      have hkp2 := hkp.out
      clear hT hT0 hcap hLc hiL
      by_cases h0 : 0 ≤ pc
      · have hd0 : decide (0 ≤ pc) = true := by simp [h0]
        by_cases h1 : pc < (pn : Int)
        · have hd1 : decide (pc < (pn : Int)) = true := by simp [h1]
          have hlv2 := hlv.out
          rw [if_pos (by rw [hon.out]; simp [h0, h1])] at hlv2
          replace hlv2 := W_hid hlv2
          go_wp2_with fail
          go_quiet (fail)
          obtain ⟨G, hG⟩ : ∃ G, wr.drewN nq = G := ⟨_, rfl⟩
          rw [hG]
          have hBG := below_drewN hB.out nq
          rw [hG] at hBG
          have horG : G.ownsRow w.heap.size TI 1 (.slice lo' ln lc) ln (ncl (live (S.t.take k))) := by rw [← hG]; exact own_move hor.out fun _ _ => rfl
          have hGs := hBG.size
          have hoG : Hid ((G.alloc (.cells #[.int .i64 (k : Int)] TI)).ownsRow w.heap.size TI 1 (.slice lo' ln lc) ln (ncl (live (S.t.take k)))) := W_hid (horG.alloc _)
          have hsG : Hid (Own.Src (G.alloc (.cells #[.int .i64 (k : Int)] TI)) 1 (.slice (some ⟨G.heap.size, 0, none⟩) 1 1) 1 [.int .i64 (k : Int)]) := W_hid (.inr ⟨_, _, rfl, rfl, fun j u hu => by
            have hb := Blk.new G TI [.int .i64 (k : Int)] (x := G.heap.size) rfl
            have := hb.cell hu
            rw [Addr.add_lit, Nat.zero_add]
            exact this⟩)
          have hone1 : Hid (∀ u ∈ ([.int .i64 (k : Int)] : List Value), u.oneCell' = true) := W_hid (by intro u hu; simp only [List.mem_singleton] at hu; subst hu; rfl)
          replace hBG := W_hid hBG
          clear hG horG q9 q0 m1r
          go_wp2_with (at_builtin; refine Own.wpList_app rfl (.tmp 43) (.tmp 45) 23 rfl und_ints info_int (.slice lo' ln lc) (.slice (some ⟨G.heap.size, 0, none⟩) 1 1) rfl rfl hoG.out (by simp; omega) hsG.out hone1.out (by unfold maxLen; omega) (by omega) ?_; intro v4 w4 ho4 hg4 hob4; have ho4 := W_hid ho4; have hg4 := W_hid hg4; clear hob4)
          refine ⟨⟨k + 1, by simp [hkp2], by omega, W_hid ?_, W_hid ?_⟩, by simp [intOf]; omega⟩
          · rw [hlv2.out, List.length_append, List.length_singleton, hln.out]
            have e : ncl (live (S.t.take k) ++ [k]) = ncl (live (S.t.take k)) ++ [.int .i64 (k : Int)] := by simp [ncl, icl]
            rw [e]; exact ho4.out
          · exact (hBG.out.alloc hGs _).grown hg4.out (by simp; omega) (fun j hj => Own.ge hoG.out j hj)
        · have hd1 : decide (pc < (pn : Int)) = false := by simp [h1]
          have hlv2 := hlv.out
          rw [if_neg (by rw [hon.out]; simp; omega), List.append_nil] at hlv2
          replace hlv2 := W_hid hlv2
          go_wp2_with fail
          go_quiet (fail)
          go_wp2_with fail
          refine ⟨⟨k + 1, by simp [hkp2], by omega, W_hid ?_, W_hid (below_drewN hB.out nq)⟩, by simp [intOf]; omega⟩
          rw [hlv2.out, hln.out]
          exact own_move hor.out fun _ _ => rfl
      · have hd0 : decide (0 ≤ pc) = false := by simp [h0]
        have hlv2 := hlv.out
        rw [if_neg (by rw [hon.out]; simp; omega), List.append_nil] at hlv2
        replace hlv2 := W_hid hlv2
        go_wp2_with fail
        go_quiet (fail)
        go_wp2_with fail
        refine ⟨⟨k + 1, by simp [hkp2], by omega, W_hid ?_, W_hid (below_drewN hB.out nq)⟩, by simp [intOf]; omega⟩
        rw [hlv2.out, hln.out]
        exact own_move hor.out fun _ _ => rfl
    · have hkn2 : k = n := by omega
      subst hkn2
      have e : S.t.take k = S.t := List.take_of_length_le (by have := hLn.out; omega)
      have hor2 := hor.out
      have hln2 := hln.out
      rw [e] at hor2 hln2
      go_wp2_with fail
      go_ret
      rw [hln2]
      exact ⟨_, rfl, hor2, hB.out⟩
end
end MC
end Go.Proofs.Ytjafjjfcmcpaoaa
