/- The law RadixWords of layer 8 (package haywardlaw08): for every input it returns true, and its arguments read as before. What the row lists of package variables is tied to the program's text by the card; no further condition. -/
import Derived.Test.YtigbjhmodpplbaaGreatDoorZK04
import Derived.Test.YtigbjhmodpplbaaGreatDoorZH04
import Derived.Deep.RegionHeld3
import Derived.OrdersHeld
import Derived.Deep.CutRange
import Derived.Deep.CutBlock

/- The document's own tree: Word. -/
namespace Go.Proofs.YtigbjhmodpplbaaGreatDoor
open Go.ChangeShapes Go.WideShapes Go.ChangeAt Go.RowKit
set_option linter.unusedVariables false
set_option linter.unusedSimpArgs false

/-- A table but the root lies below the top. -/
theorem tab_top {F : RX.Tabs} {G : RX.Pags} {r n : Nat} (I : RX.Inv F G r n) (u : RX.Used F G) : ∀ (l j f : Nat), l ≤ 3 → F l j = some f → j * EN.sz l < 140737488355328
  | 0, j, f, _, h => absurd (I.lev h).1 (by omega)
  | l + 1, j, f, h3, h => by
    obtain ⟨i, hi, hp⟩ := u (l + 1) j f h h3
    have hs : j * EN.sz (l + 1) = 512 * j * EN.sz l := by rw [EN.sz_succ, Nat.mul_comm 512 j, Nat.mul_assoc, Nat.mul_comm (EN.sz l) 512]
    have hle : 512 * j * EN.sz l ≤ (512 * j + i) * EN.sz l := Nat.mul_le_mul_right _ (by omega)
    rw [hs]
    rcases RX.pres_or hp with ⟨y, hy⟩ | ⟨⟨y, p⟩, hy⟩
    · rw [Nat.add_sub_cancel] at hy
      have := tab_top I u l (512 * j + i) y (by omega) hy
      omega
    · have := (I.page hy).2.2.2
      rw [Nat.add_sub_cancel] at this
      omega
theorem pg_low {F : RX.Tabs} {G : RX.Pags} {r n : Nat} (I : RX.Inv F G r n) {j i f0 : Nat} (hF : F 1 j = some f0) (hi : i < 512) : RX.pg G ((512 * j + i) * EN.sz 0) = (G 1 (512 * j + i)).map fun x => (1, x.1, x.2) := by
  have hd : (512 * j + i) * EN.sz 0 / EN.sz 0 = 512 * j + i := Nat.mul_div_cancel _ (EN.sz_pos 0)
  unfold RX.pg
  rw [hd]
  cases h1 : G 1 (512 * j + i) with
  | some x => rfl
  | none =>
    have h2 : G 2 ((512 * j + i) * EN.sz 0 / EN.sz 1) = none := by
      have e : (512 * j + i) * EN.sz 0 / EN.sz 1 = j := by
        rw [EN.sz_succ 0, ← Nat.div_div_eq_div_mul, hd]; omega
      rw [e]
      cases h3 : G 2 j with
      | none => rfl
      | some y => rw [I.apart h3] at hF; cases hF
    rw [h2]
    rfl
theorem pg_mid {F : RX.Tabs} {G : RX.Pags} {r n : Nat} (I : RX.Inv F G r n) {c : Nat} (hF : F 1 c = none) : RX.pg G (c * EN.sz 1) = (G 2 c).map fun x => (2, x.1, x.2) := by
  have hd : c * EN.sz 1 / EN.sz 1 = c := Nat.mul_div_cancel _ (EN.sz_pos 1)
  have h1 : G 1 (c * EN.sz 1 / EN.sz 0) = none := by
    cases h3 : G 1 (c * EN.sz 1 / EN.sz 0) with
    | none => rfl
    | some y =>
      obtain ⟨z, hz⟩ := I.way h3
      have e : c * EN.sz 1 / EN.sz 0 / 512 = c := by
        rw [Nat.div_div_eq_div_mul, ← EN.sz_succ 0, hd]
      rw [e, hF] at hz; cases hz
  unfold RX.pg
  rw [h1, hd]
  cases h2 : G 2 c with
  | none => rfl
  | some x => rfl

section
variable {D : List Nat} {g pg pb n : Nat} {T : Nat → Bool} {lv tv : Value} {L : List RX.Pg} {Tl : List RX.Tb} {w : World}
theorem cellk {w W : World} {p : Addr} {v : Value} {q : Nat} (h : w.cell? p = some v) (e : w.drewN q = W) : W.cell? p = some v := by rw [← e]; exact h
theorem rWord_out (f : Nat) (i : Int) (hi : i < 0 ∨ 512 ≤ i) :
    Calls Tryz.prog 18 #[.pointer (some ⟨g, 0, none⟩), .int .u64 (f : Int), .int .i64 i] w fun e w' => e = .returned (.tuple #[.int .u64 0, .bool false]) ∧ Below w.heap.size w w' := by
  by_cases h0 : i < 0
  · go_enter Tryz.func18, Tryz.ntmps18
    go_wp2_with fail
    go_ret2
    exact ⟨rfl, Below.refl _ _⟩
  · have h1 : (511 : Int) < i := by omega
    go_enter Tryz.func18, Tryz.ntmps18
    go_wp2_with fail
    go_ret2
    exact ⟨rfl, Below.refl _ _⟩

set_option maxRecDepth 100000 in
set_option maxHeartbeats 8000000 in
theorem rWord_no (f i : Nat) (hDM : DM w D g pg pb n T lv tv L Tl) (hi : i < 512) (hlen : Tl.length ≤ 100000) (hno : ∀ x ∈ Tl, x.1 ≠ f) :
    Calls Tryz.prog 18 #[.pointer (some ⟨g, 0, none⟩), .int .u64 (f : Int), .int .i64 (i : Int)] w fun e w' => e = .returned (.tuple #[.int .u64 0, .bool false]) ∧ Below w.heap.size w w' := by
  obtain ⟨-, a0, cap0, htv, hc1, hc2⟩ := hDM.lens
  unfold maxLen at hc2
  have H := W_hid hDM
  have hno := W_hid hno
  have c2 := hDM.c2
  have hgl := hDM.box.lt
  rw [htv] at c2
  replace htv := W_hid htv
  obtain ⟨N, hN⟩ : ∃ N, Tl.length = N := ⟨_, rfl⟩
  rw [hN] at c2 hlen hc1
  replace hN := W_hid hN
  clear hDM
  go_enter Tryz.func18, Tryz.ntmps18
  go_wp2_with fail
  go_loopw [8] (fun v wr => ∃ k : Nat, k ≤ N ∧ v = .int .i64 (k : Int) ∧ Below w.heap.size w wr) (fun v _ => N - (intOf v).toNat)
  case atStart => exact ⟨0, Nat.zero_le _, rfl, Below.refl _ _⟩
  case round =>
    obtain ⟨k, hk, rfl, bel⟩ := hrel
    have hDr := H.out.keep bel
    have c2 := hDr.c2
    rw [htv.out, hN.out] at c2
    by_cases hlt : k < N
    · have hkl : k < Tl.length := by rw [hN.out]; exact hlt
      obtain ⟨bt, ot, capt, hv, -, -, r0, r1, r2, -, -, -, -⟩ := hDr.tab hkl
      rw [htv.out, hN.out] at hv
      simp only [Value.slice.injEq] at hv
      obtain ⟨rfl, -, rfl⟩ := hv
      have hne := hno.out _ (List.getElem_mem hkl)
      obtain ⟨⟨fk, lk, ak⟩, hx⟩ : ∃ x, Tl[k] = x := ⟨_, rfl⟩
      rw [hx] at r0 r1 r2 hne
      simp only at r0 r1 r2 hne
      have hne1 : ((fk : Int) != (f : Int)) = true := by simp; omega
      replace hne := W_hid hne
      have bel2 := bel.alloc bel.size (.cells #[.int .u64 (fk : Int), .int .i64 (lk : Int), .int .u64 (ak : Int)] 105)
      clear hDr hx hkl
      go_wp2_with fail
      go_roundw
      case rel => exact ⟨k + 1, by omega, by go_num, bel2⟩
      case measure => simp [intOf]; omega
    · obtain rfl : k = N := by omega
      clear hDr
      go_wp2_with fail
      go_ret2
      exact ⟨rfl, bel⟩

set_option maxRecDepth 100000 in
set_option maxHeartbeats 16000000 in
theorem rWord_yes (f i l j : Nat) {F : RX.Tabs} {G : RX.Pags} {r : Nat} (hDM : DM w D g pg pb n T lv tv L Tl) (I : RX.Inv F G r n) (hP : RX.PB L G) (hB : RX.TB Tl F r) (hu : RX.Used F G) (hi : i < 512) (hlen : Tl.length ≤ 100000) (hF : F l j = some f) :
    Calls Tryz.prog 18 #[.pointer (some ⟨g, 0, none⟩), .int .u64 (f : Int), .int .i64 (i : Int)] w fun e w' => e = .returned (.tuple #[.int .u64 ((RX.word F G l (512 * j + i) : Nat) : Int), .bool true]) ∧ Below w.heap.size w w' := by
  obtain ⟨l1, l4, -, -⟩ := I.lev hF
  obtain ⟨K, hK, hxK⟩ : ∃ K, ∃ hK : K < Tl.length, Tl[K] = (f, l, j * EN.sz l) := by
    have hm := (hB.mem (f, l, j * EN.sz l)).2 ⟨j, hF, rfl⟩
    obtain ⟨K, hK, e⟩ := List.getElem_of_mem hm
    exact ⟨K, hK, e⟩
  have hbef : ∀ k (hk : k < Tl.length), k < K → Tl[k].1 ≠ f := by
    intro k hk hkK e
    obtain ⟨j', h1, h2⟩ := (hB.mem Tl[k]).1 (List.getElem_mem hk)
    rw [e] at h1
    obtain ⟨e1, e2⟩ := I.inj h1 hF
    have ex : Tl[k] = Tl[K] := by
      rw [hxK]
      apply Prod.ext
      · exact e
      · apply Prod.ext
        · exact e1
        · rw [h2, e1, e2]
    have := List.pairwise_iff_getElem.1 hB.nd k K hk hK hkK
    exact this ex
  obtain ⟨S, hS⟩ : ∃ S, EN.sz (l - 1) = S := ⟨_, rfl⟩
  have hsl : EN.sz l = S * 512 := by rw [← hS]; obtain ⟨l', rfl⟩ : ∃ l', l = l' + 1 := ⟨l - 1, by omega⟩; rw [EN.sz_succ]; rfl
  have hSp : 0 < S := by rw [← hS]; exact EN.sz_pos _
  have hS3 : S ≤ 549755813888 := by rw [← hS]; rcases (by omega : l = 1 ∨ l = 2 ∨ l = 3 ∨ l = 4) with rfl | rfl | rfl | rfl <;> decide
  have hfrom := (hDM.tlt _ (List.getElem_mem hK)).2.2.2
  rw [hxK] at hfrom
  simp only at hfrom
  obtain ⟨A, hA⟩ : ∃ A, j * EN.sz l = A := ⟨_, rfl⟩
  rw [hA] at hfrom hxK
  obtain ⟨va, hva⟩ : ∃ va, A + i * S = va := ⟨_, rfl⟩
  have hiS : i * S ≤ 511 * 549755813888 := Nat.mul_le_mul (by omega) hS3
  have hvc : va = (512 * j + i) * S := by rw [← hva, ← hA, hsl, Nat.add_mul, Nat.mul_comm S 512, ← Nat.mul_assoc, Nat.mul_comm j 512]
  have hdiv : va / S = 512 * j + i := by rw [hvc]; exact Nat.mul_div_cancel _ hSp
  obtain ⟨c, hc⟩ : ∃ c, 512 * j + i = c := ⟨_, rfl⟩
  rw [hc] at hvc hdiv ⊢
  have hSpan := W_hid (fun (W : World) (t : Nat) => Calls.quiet_of_same ((rspan_any l l1 l4 (W.drewN t)).mono fun e w' ⟨he, hw⟩ => ⟨he, hw.symm⟩))
  rw [hsl] at hSpan
  have hq1 : ((S * 512 : Nat) : Int).tdiv 512 = (S : Int) := by
    show (((S * 512) / 512 : Nat) : Int) = S
    rw [Nat.mul_div_cancel _ (by omega)]
  have hw1 : IntKind.u64.wrap ((i : Int) * (S : Int)) = ((i * S : Nat) : Int) := by rw [← Int.natCast_mul]; exact IntWalk.u64_in _ (by omega)
  have hw2 : IntKind.u64.wrap ((A : Int) + ((i * S : Nat) : Int)) = (va : Int) := by rw [← Int.natCast_add, hva]; exact IntWalk.u64_in _ (by omega)
  have hw0 : IntKind.u64.wrap (i : Int) = (i : Int) := IntWalk.u64_in _ (by omega)
  have hva64 : va < 18446744073709551616 := by omega
  have hvI : Hid ((A : Int) + (i : Int) * (S : Int) = (va : Int)) := W_hid (by rw [← hva, Int.natCast_add, Int.natCast_mul])
  obtain ⟨-, a0, cap0, htv, hc1, hc2⟩ := hDM.lens
  unfold maxLen at hc2
  have H := W_hid hDM
  have hI := W_hid I
  have hPB := W_hid hP
  have hTB := W_hid hB
  have hTop := W_hid (tab_top I hu)
  have hFj := W_hid hF
  have c2 := hDM.c2
  have hgl := hDM.box.lt
  rw [htv] at c2
  replace htv := W_hid htv
  obtain ⟨N, hN⟩ : ∃ N, Tl.length = N := ⟨_, rfl⟩
  have hKl := W_hid hK
  replace hxK := W_hid hxK
  replace hbef := W_hid hbef
  have hKN : K < N := by omega
  rw [hN] at c2 hlen hc1
  replace hN := W_hid hN
  replace hS := W_hid hS
  replace hc := W_hid hc
  replace hvc := W_hid hvc
  replace hdiv := W_hid hdiv
  replace hsl := W_hid hsl
  replace hA := W_hid hA
  replace hva := W_hid hva
  clear hDM I hP hB hF hu
  go_enter Tryz.func18, Tryz.ntmps18
  go_wp2_with fail
  go_loopw [8] (fun v wr => ∃ k : Nat, k ≤ K ∧ v = .int .i64 (k : Int) ∧ Below w.heap.size w wr) (fun v _ => N - (intOf v).toNat)
  case atStart => exact ⟨0, Nat.zero_le _, rfl, Below.refl _ _⟩
  case round =>
    obtain ⟨k, hk, rfl, bel⟩ := hrel
    have hDr := H.out.keep bel
    have c2 := hDr.c2
    rw [htv.out, hN.out] at c2
    have hkl : k < Tl.length := by rw [hN.out]; omega
    obtain ⟨bt, ot, capt, hv, -, -, r0, r1, r2, -, -, -, -⟩ := hDr.tab hkl
    rw [htv.out, hN.out] at hv
    simp only [Value.slice.injEq] at hv
    obtain ⟨rfl, -, rfl⟩ := hv
    by_cases hlt : k < K
    · have hne := hbef.out k hkl hlt
      obtain ⟨⟨fk, lk, ak⟩, hx⟩ : ∃ x, Tl[k] = x := ⟨_, rfl⟩
      rw [hx] at r0 r1 r2 hne
      simp only at r0 r1 r2 hne
      have hne1 : ((fk : Int) != (f : Int)) = true := by simp; omega
      replace hne := W_hid hne
      have bel2 := bel.alloc bel.size (.cells #[.int .u64 (fk : Int), .int .i64 (lk : Int), .int .u64 (ak : Int)] 105)
      have hkN : (k : Int) < (N : Int) := by omega
      clear hDr hx hkl
      go_wp2_with fail
      go_roundw
      case rel => exact ⟨k + 1, by omega, by go_num, bel2⟩
      case measure => simp [intOf]; omega
    · obtain rfl : k = K := by omega
      rw [hxK.out] at r0 r1 r2
      simp only at r0 r1 r2
      have hbx := (Below.refl wr.heap.size wr).alloc (Nat.le_refl _) (.cells #[.int .u64 (f : Int), .int .i64 (l : Int), .int .u64 (A : Int)] 105)
      have hX := Blk.new wr 105 [.int .u64 (f : Int), .int .i64 (l : Int), .int .u64 (A : Int)] rfl
      have x0 := hX.cell (j := 0) rfl
      have x1 := hX.cell (j := 1) rfl
      have x2 := hX.cell (j := 2) rfl
      have hkN : (k : Int) < (N : Int) := by omega
      have hDx := W_hid (hDr.keep hbx)
      have belx := W_hid (bel.trans (hbx.mono bel.size))
      replace hX := W_hid hX
      clear hDr hbx bel
      go_wp2_with fail
      go_quiet ((go_at_call 57; exact hSpan.out _ _))
      obtain ⟨W, hW⟩ : ∃ W, (wr.alloc (.cells #[.int .u64 (f : Int), .int .i64 (l : Int), .int .u64 (A : Int)] 105)).drewN nq = W := ⟨_, rfl⟩
      have hDw := hDx.out.keep (w' := W) (by rw [← hW]; exact below_drewN (Below.refl _ _) nq)
      have hXw := hX.out.keep (w' := W) (by rw [← hW]; exact below_drewN (Below.refl _ _) nq)
      have belw := W_hid (belx.out.trans (show Below w.heap.size _ W from by rw [← hW]; exact (below_drewN (Below.refl _ _) nq)))
      rw [hW, hvI.out]
      replace hW := W_hid hW
      have y1 := hXw.cell (j := 1) rfl
      have hDw := W_hid hDw
      have hXw := W_hid hXw
      clear x0 x1 x2 hDx hX r0 r1 r2 c2
      have hDW := hDw
      have hXW := hXw
      have hBW := belw
      have hXsz := hXW.out.lt
      have hFc : (∃ f1, F (l - 1) c = some f1) ∨ F (l - 1) c = none := by
        cases h : F (l - 1) c with
        | some f1 => exact .inl ⟨f1, rfl⟩
        | none => exact .inr rfl
      rcases hFc with ⟨f1, hFt⟩ | hFt
      · replace hFt := hFt
        have hl2 : 2 ≤ l := by have := (hI.out.lev hFt).1; omega
        have hf1 := (hI.out.lev hFt).2.2.2
        have hn2 := hI.out.n2
        have hright : EN.right true false 7 f1 (l : Int) := by unfold EN.right; refine ⟨?_, ?_, ?_, ?_⟩ <;> first | omega | simp <;> omega
        obtain ⟨k1, hk1, hk1l, hk1e⟩ := hTB.out.yes (l := l - 1) (va := va) (by rw [hS.out, hdiv.out]; exact hFt)
        have cT := table_any D g pg pb n T lv tv L Tl W hDW.out (l - 1) va (by omega) (by omega) hva64
        rw [hk1] at cT
        unfold ixI at cT
        replace cT := W_hid cT
        have hw3 : IntKind.i64.wrap ((l : Int) - 1) = ((l - 1 : Nat) : Int) := by rw [IntWalk.i64_in _ (by omega)]; omega
        have hvt : (va : Int) < 140737488355328 := by have := hTop.out (l - 1) c f1 (by omega) hFt; rw [hS.out, ← hvc.out] at this; omega
        have hword : Hid (RX.word F G l c = EN.wd false 7 f1) := W_hid (by unfold RX.word; rw [hFt])
        have hl1i : (1 : Int) < (l : Int) := by omega
        have hk10 : (0 : Int) ≤ (k1 : Int) := by omega
        go_wp2_with fail
        refine cT.out.mono ?_
        rintro e W2x ⟨rfl, q, rfl⟩
        obtain ⟨W2, hW2⟩ : ∃ x, W.drewN q = x := ⟨_, rfl⟩
        have hDW2 := W_hid (hDW.out.keep (w' := W2) (by rw [← hW2]; exact below_drewN (Below.refl _ _) q))
        have hXW2 := W_hid (hXW.out.keep (w' := W2) (by rw [← hW2]; exact below_drewN (Below.refl _ _) q))
        have hBW2 := W_hid (hBW.out.trans (show Below w.heap.size W W2 from by rw [← hW2]; exact below_drewN (Below.refl _ _) q))
        rw [hW2]
        replace hW2 := W_hid hW2
        obtain ⟨b1, o1, cap1, hv1, -, -, s0, s1, s2, -, -, -, -⟩ := hDW2.out.tab hk1l
        rw [htv.out, hN.out] at hv1
        simp only [Value.slice.injEq] at hv1
        obtain ⟨hv1, -, -⟩ := hv1
        simp only [Option.some.injEq, Addr.mk.injEq, and_true] at hv1
        obtain ⟨rfl, rfl⟩ := hv1
        rw [hk1e] at s0
        simp only at s0
        have d2 := hDW2.out.c2
        rw [htv.out, hN.out] at d2
        have x1 := hXW2.out.cell (j := 1) rfl
        have hE := W_hid (fun W => rEncode_yes true false 7 f1 (l : Int) hright W)
        have hk1N : (k1 : Int) < (N : Int) := by rw [← hN.out]; omega
        clear s1 s2 cT
        go_wp2_with fail
        refine wp_region_held_drew (S := (fun w' => w'.cell? ⟨g, 2, none⟩ = some (.slice (some ⟨bt, ot, none⟩) N cap0) ∧ w'.cell? ⟨bt, ot + k1 * 3, none⟩ = some (.int .u64 (f1 : Int)) ∧ w'.cell? ⟨wr.heap.size, 1, none⟩ = some (.int .i64 (l : Int)))) (by kernel_rfl) ⟨d2, s0, x1⟩ (fun hHeld => ?_)
        refine wpAnyH_take (i := 0) (v := .pointer (some ⟨g, 0, none⟩)) rfl (by kernel_rfl) (by kernel_rfl) (by kernel_rfl) (fun _ _ _ h => h) (Or.inl ⟨by rfl, fun w0 ⟨s1, s2, s3⟩ => ?_⟩) hHeld ?_
        · go_simp
        try simp only [Act.put, List.setIfInBounds_toArray, List.set_cons_zero, List.set_cons_succ, List.getElem_toArray, List.getElem_cons_zero, List.getElem_cons_succ]
        refine wpAnyH_take (i := 1) (v := .pointer (some ⟨g, 0, none⟩)) rfl (by kernel_rfl) (by kernel_rfl) (by kernel_rfl) (fun _ _ _ h => h) (Or.inl ⟨by rfl, fun w0 ⟨s1, s2, s3⟩ => ?_⟩) hHeld ?_
        · go_simp
        try simp only [Act.put, List.setIfInBounds_toArray, List.set_cons_zero, List.set_cons_succ, List.getElem_toArray, List.getElem_cons_zero, List.getElem_cons_succ]
        refine wpAnyH_take (i := 2) (v := .pointer (some ⟨g, 2, none⟩)) rfl (by kernel_rfl) (by kernel_rfl) (by kernel_rfl) (fun _ _ _ h => h) (Or.inl ⟨by rfl, fun w0 ⟨s1, s2, s3⟩ => ?_⟩) hHeld ?_
        · go_simp
        try simp only [Act.put, List.setIfInBounds_toArray, List.set_cons_zero, List.set_cons_succ, List.getElem_toArray, List.getElem_cons_zero, List.getElem_cons_succ]
        refine wpAnyH_take (i := 3) (v := .slice (some ⟨bt, ot, none⟩) N cap0) rfl (by kernel_rfl) (by kernel_rfl) (by kernel_rfl) (fun _ _ _ h => h) (Or.inl ⟨by rfl, fun w0 ⟨s1, s2, s3⟩ => ?_⟩) hHeld ?_
        · go_simp
        try simp only [Act.put, List.setIfInBounds_toArray, List.set_cons_zero, List.set_cons_succ, List.getElem_toArray, List.getElem_cons_zero, List.getElem_cons_succ]
        refine wpAnyH_take (i := 4) (v := .int .i64 (k1 : Int)) rfl (by kernel_rfl) (by kernel_rfl) (by kernel_rfl) (fun _ _ _ h => h) (Or.inl ⟨by rfl, fun w0 ⟨s1, s2, s3⟩ => ?_⟩) hHeld ?_
        · go_simp
        try simp only [Act.put, List.setIfInBounds_toArray, List.set_cons_zero, List.set_cons_succ, List.getElem_toArray, List.getElem_cons_zero, List.getElem_cons_succ]
        refine wpAnyH_take (i := 5) (v := .pointer (some ⟨bt, ot + k1 * 3, none⟩)) rfl (by kernel_rfl) (by kernel_rfl) (by kernel_rfl) (fun _ _ _ h => h) (Or.inl ⟨by rfl, fun w0 ⟨s1, s2, s3⟩ => ?_⟩) hHeld ?_
        · go_simp
        try simp only [Act.put, List.setIfInBounds_toArray, List.set_cons_zero, List.set_cons_succ, List.getElem_toArray, List.getElem_cons_zero, List.getElem_cons_succ]
        refine wpAnyH_take (i := 6) (v := .pointer (some ⟨bt, ot + k1 * 3, none⟩)) rfl (by kernel_rfl) (by kernel_rfl) (by kernel_rfl) (fun _ _ _ h => h) (Or.inl ⟨by rfl, fun w0 ⟨s1, s2, s3⟩ => ?_⟩) hHeld ?_
        · go_simp
        try simp only [Act.put, List.setIfInBounds_toArray, List.set_cons_zero, List.set_cons_succ, List.getElem_toArray, List.getElem_cons_zero, List.getElem_cons_succ]
        refine wpAnyH_take (i := 7) (v := .int .u64 (f1 : Int)) rfl (by kernel_rfl) (by kernel_rfl) (by kernel_rfl) (fun _ _ _ h => h) (Or.inl ⟨by rfl, fun w0 ⟨s1, s2, s3⟩ => ?_⟩) hHeld ?_
        · go_simp
        try simp only [Act.put, List.setIfInBounds_toArray, List.set_cons_zero, List.set_cons_succ, List.getElem_toArray, List.getElem_cons_zero, List.getElem_cons_succ]
        refine wpAnyH_take (i := 8) (v := .agg #[.bool true, .bool false, .int .i64 7, .int .u64 (f1 : Int)]) rfl (by kernel_rfl) (by kernel_rfl) (by kernel_rfl) (fun _ _ _ h => h) (Or.inl ⟨by rfl, fun w0 ⟨s1, s2, s3⟩ => ?_⟩) hHeld ?_
        · go_simp
        try simp only [Act.put, List.setIfInBounds_toArray, List.set_cons_zero, List.set_cons_succ, List.getElem_toArray, List.getElem_cons_zero, List.getElem_cons_succ]
        refine wpAnyH_take (i := 9) (v := .pointer (some ⟨wr.heap.size, 1, none⟩)) rfl (by kernel_rfl) (by kernel_rfl) (by kernel_rfl) (fun _ _ _ h => h) (Or.inl ⟨by rfl, fun w0 ⟨s1, s2, s3⟩ => ?_⟩) hHeld ?_
        · go_simp
        try simp only [Act.put, List.setIfInBounds_toArray, List.set_cons_zero, List.set_cons_succ, List.getElem_toArray, List.getElem_cons_zero, List.getElem_cons_succ]
        refine wpAnyH_take (i := 10) (v := .int .i64 (l : Int)) rfl (by kernel_rfl) (by kernel_rfl) (by kernel_rfl) (fun _ _ _ h => h) (Or.inl ⟨by rfl, fun w0 ⟨s1, s2, s3⟩ => ?_⟩) hHeld ?_
        · go_simp
        try simp only [Act.put, List.setIfInBounds_toArray, List.set_cons_zero, List.set_cons_succ, List.getElem_toArray, List.getElem_cons_zero, List.getElem_cons_succ]
        refine wpAnyH_ready (rs := [11]) (by kernel_rfl) (by simp) ?_
        refine AllReadyH.cons rfl (fun K hK => ?_) AllReadyH.nil
        go_simp
        refine (hE.out _).mono ?_
        rintro e W9 ⟨rfl, b9⟩
        have b9 := bundrew b9
        have hB9 := W_hid (hBW2.out.trans (b9.mono hBW2.out.size))
        have t0 := cell_keep b9 rfl d2
        have t1 := cell_keep b9 rfl s0
        have t2 := cell_keep b9 rfl x1
        refine hK.out _ _ ⟨t0, t1, t2⟩ (fun hHeld1 => ?_)
        clear hK K
        try simp only [Act.put, List.setIfInBounds_toArray, List.set_cons_zero, List.set_cons_succ, List.getElem_toArray, List.getElem_cons_zero, List.getElem_cons_succ]
        refine wpAnyH_take (i := 12) (v := .tuple #[.int .u64 ((EN.wd false 7 f1 : Nat) : Int), .int .i64 0]) rfl (by kernel_rfl) (by kernel_rfl) (by kernel_rfl) (fun _ _ _ h => h) (Or.inl ⟨by rfl, fun w0 ⟨s1, s2, s3⟩ => ?_⟩) hHeld1 ?_
        · go_simp
        try simp only [Act.put, List.setIfInBounds_toArray, List.set_cons_zero, List.set_cons_succ, List.getElem_toArray, List.getElem_cons_zero, List.getElem_cons_succ]
        refine wpAnyH_take (i := 13) (v := .int .u64 ((EN.wd false 7 f1 : Nat) : Int)) rfl (by kernel_rfl) (by kernel_rfl) (by kernel_rfl) (fun _ _ _ h => h) (Or.inl ⟨by rfl, fun w0 ⟨s1, s2, s3⟩ => ?_⟩) hHeld1 ?_
        · go_simp
        try simp only [Act.put, List.setIfInBounds_toArray, List.set_cons_zero, List.set_cons_succ, List.getElem_toArray, List.getElem_cons_zero, List.getElem_cons_succ]
        refine wpAnyH_take (i := 14) (v := .int .i64 0) rfl (by kernel_rfl) (by kernel_rfl) (by kernel_rfl) (fun _ _ _ h => h) (Or.inl ⟨by rfl, fun w0 ⟨s1, s2, s3⟩ => ?_⟩) hHeld1 ?_
        · go_simp
        try simp only [Act.put, List.setIfInBounds_toArray, List.set_cons_zero, List.set_cons_succ, List.getElem_toArray, List.getElem_cons_zero, List.getElem_cons_succ]
        refine wpAnyH_take (i := 15) (v := .int .u64 ((EN.wd false 7 f1 : Nat) : Int)) rfl (by kernel_rfl) (by kernel_rfl) (by kernel_rfl) (fun _ _ _ h => h) (Or.inl ⟨by rfl, fun w0 ⟨s1, s2, s3⟩ => ?_⟩) hHeld1 ?_
        · go_simp
        try simp only [Act.put, List.setIfInBounds_toArray, List.set_cons_zero, List.set_cons_succ, List.getElem_toArray, List.getElem_cons_zero, List.getElem_cons_succ]
        refine wpAnyH_take (i := 16) (v := .int .i64 0) rfl (by kernel_rfl) (by kernel_rfl) (by kernel_rfl) (fun _ _ _ h => h) (Or.inl ⟨by rfl, fun w0 ⟨s1, s2, s3⟩ => ?_⟩) hHeld1 ?_
        · go_simp
        try simp only [Act.put, List.setIfInBounds_toArray, List.set_cons_zero, List.set_cons_succ, List.getElem_toArray, List.getElem_cons_zero, List.getElem_cons_succ]
        refine wpAnyH_done (by kernel_rfl) ?_ _
        go_wp2_with fail
        go_ret2
        exact ⟨by rw [hword.out]; rfl, hB9.out⟩
      · rcases (by omega : l = 1 ∨ l = 2 ∨ 3 ≤ l) with hl1 | hl2 | hl3
        · subst hl1
          have hS0 : EN.sz 0 = S := hS.out
          have hF1j : F 1 j = some f := hFj.out
          have hFt : F 0 c = none := hFt
          have hGo : (∃ x, G 1 c = some x) ∨ G 1 c = none := by
            cases h : G 1 c with
            | some x => exact .inl ⟨x, rfl⟩
            | none => exact .inr rfl
          rcases hGo with ⟨x, hGc⟩ | hGc
          · obtain ⟨f1, p⟩ := x
            have hpg : RX.pg G va = some (1, f1, p) := by rw [show va = (512 * j + i) * EN.sz 0 from by rw [hS0, hc.out]; exact hvc.out, pg_low hI.out hF1j hi, hc.out, hGc]; rfl
            obtain ⟨k1, hk1, hk1l, hk1e⟩ := hPB.out.at_some hI.out hpg
            have cA := at_any D g pg pb n T lv tv L Tl W hDW.out va hva64
            rw [hk1] at cA
            unfold ixI at cA
            replace cA := W_hid cA
            have hright := (hI.out.page hGc).2.2.1
            have hk10 : (0 : Int) ≤ (k1 : Int) := by omega
            go_wp2_with fail
            refine cA.out.mono ?_
            rintro e W3 ⟨rfl, b3⟩
            have hDW3 := W_hid (hDW.out.keep b3)
            have hXW3 := W_hid (hXW.out.keep b3)
            have hBW3 := W_hid (hBW.out.trans (b3.mono hBW.out.size))
            obtain ⟨b1, o1, cap1, hv1, -, -, s0, s1, s2, s3, -, -⟩ := hDW3.out.page hk1l
            rw [hk1e] at s1 s2 s3
            simp only at s1 s2 s3
            have d1 := hDW3.out.c1
            rw [hv1] at d1
            have x1 := hXW3.out.cell (j := 1) rfl
            obtain ⟨NL, hNL⟩ : ∃ NL, L.length = NL := ⟨_, rfl⟩
            rw [hNL] at d1 hk1l
            have hk1N : (k1 : Int) < (NL : Int) := by omega
            replace hNL := W_hid hNL
            replace hv1 := W_hid hv1
            have ehu : decide (1 = 2) = false := by decide
            first
              | rw [ehu] at hright
              | (simp only [decide_true] at hright)
            first
              | rw [ehu] at s3
              | (simp only [decide_true] at s3)
            clear s0 b3 cA
            go_wp2_with fail
            go_quiet (fail)
            obtain ⟨W4, hW4⟩ : ∃ x, W3.drewN nq = x := ⟨_, rfl⟩
            have hDW4 := W_hid (hDW3.out.keep (w' := W4) (by rw [← hW4]; exact below_drewN (Below.refl _ _) nq))
            have hXW4 := W_hid (hXW3.out.keep (w' := W4) (by rw [← hW4]; exact below_drewN (Below.refl _ _) nq))
            have hBW4 := W_hid (hBW3.out.trans (show Below w.heap.size W3 W4 from by rw [← hW4]; exact below_drewN (Below.refl _ _) nq))
            rw [hW4]
            replace hW4 := W_hid hW4
            have z1 := cellk d1 hW4.out
            have z3 := cellk s1 hW4.out
            have z4 := cellk s2 hW4.out
            have z5 := cellk s3 hW4.out
            have z6 := cellk x1 hW4.out
            clear d1 s1 s2 s3 x1
            have hE := W_hid (fun W => rEncode_yes false false p f1 (1 : Int) hright W)
            have hword : Hid (RX.word F G 1 c = EN.wd false p f1) := W_hid (by unfold RX.word; rw [hFt]; simp only; rw [hGc]; rfl)
            go_wp2_with fail
            refine wp_region_held_drew (S := (fun w' => w'.cell? ⟨g, 1, none⟩ = some (.slice (some ⟨b1, o1, none⟩) NL cap1) ∧ w'.cell? ⟨b1, o1 + k1 * 4 + 3, none⟩ = some (.bool false) ∧ w'.cell? ⟨b1, o1 + k1 * 4 + 2, none⟩ = some (.int .i64 p) ∧ w'.cell? ⟨b1, o1 + k1 * 4 + 1, none⟩ = some (.int .u64 (f1 : Int)) ∧ w'.cell? ⟨wr.heap.size, 1, none⟩ = some (.int .i64 1))) (by kernel_rfl) ⟨z1, z5, z4, z3, z6⟩ (fun hHeld => ?_)
            refine wpAnyH_take (i := 0) (v := .pointer (some ⟨g, 0, none⟩)) rfl (by kernel_rfl) (by kernel_rfl) (by kernel_rfl) (fun _ _ _ h => h) (Or.inl ⟨by rfl, fun w0 ⟨s1, s2, s3, s4, s5⟩ => ?_⟩) hHeld ?_
            · go_simp
            try simp only [Act.put, List.setIfInBounds_toArray, List.set_cons_zero, List.set_cons_succ, List.getElem_toArray, List.getElem_cons_zero, List.getElem_cons_succ]
            refine wpAnyH_take (i := 1) (v := .pointer (some ⟨g, 0, none⟩)) rfl (by kernel_rfl) (by kernel_rfl) (by kernel_rfl) (fun _ _ _ h => h) (Or.inl ⟨by rfl, fun w0 ⟨s1, s2, s3, s4, s5⟩ => ?_⟩) hHeld ?_
            · go_simp
            try simp only [Act.put, List.setIfInBounds_toArray, List.set_cons_zero, List.set_cons_succ, List.getElem_toArray, List.getElem_cons_zero, List.getElem_cons_succ]
            refine wpAnyH_take (i := 2) (v := .pointer (some ⟨g, 1, none⟩)) rfl (by kernel_rfl) (by kernel_rfl) (by kernel_rfl) (fun _ _ _ h => h) (Or.inl ⟨by rfl, fun w0 ⟨s1, s2, s3, s4, s5⟩ => ?_⟩) hHeld ?_
            · go_simp
            try simp only [Act.put, List.setIfInBounds_toArray, List.set_cons_zero, List.set_cons_succ, List.getElem_toArray, List.getElem_cons_zero, List.getElem_cons_succ]
            refine wpAnyH_take (i := 3) (v := .slice (some ⟨b1, o1, none⟩) NL cap1) rfl (by kernel_rfl) (by kernel_rfl) (by kernel_rfl) (fun _ _ _ h => h) (Or.inl ⟨by rfl, fun w0 ⟨s1, s2, s3, s4, s5⟩ => ?_⟩) hHeld ?_
            · go_simp
            try simp only [Act.put, List.setIfInBounds_toArray, List.set_cons_zero, List.set_cons_succ, List.getElem_toArray, List.getElem_cons_zero, List.getElem_cons_succ]
            refine wpAnyH_take (i := 4) (v := .int .i64 (k1 : Int)) rfl (by kernel_rfl) (by kernel_rfl) (by kernel_rfl) (fun _ _ _ h => h) (Or.inl ⟨by rfl, fun w0 ⟨s1, s2, s3, s4, s5⟩ => ?_⟩) hHeld ?_
            · go_simp
            try simp only [Act.put, List.setIfInBounds_toArray, List.set_cons_zero, List.set_cons_succ, List.getElem_toArray, List.getElem_cons_zero, List.getElem_cons_succ]
            refine wpAnyH_take (i := 5) (v := .pointer (some ⟨b1, o1 + k1 * 4, none⟩)) rfl (by kernel_rfl) (by kernel_rfl) (by kernel_rfl) (fun _ _ _ h => h) (Or.inl ⟨by rfl, fun w0 ⟨s1, s2, s3, s4, s5⟩ => ?_⟩) hHeld ?_
            · go_simp
            try simp only [Act.put, List.setIfInBounds_toArray, List.set_cons_zero, List.set_cons_succ, List.getElem_toArray, List.getElem_cons_zero, List.getElem_cons_succ]
            refine wpAnyH_take (i := 6) (v := .pointer (some ⟨b1, o1 + k1 * 4 + 3, none⟩)) rfl (by kernel_rfl) (by kernel_rfl) (by kernel_rfl) (fun _ _ _ h => h) (Or.inl ⟨by rfl, fun w0 ⟨s1, s2, s3, s4, s5⟩ => ?_⟩) hHeld ?_
            · go_simp
            try simp only [Act.put, List.setIfInBounds_toArray, List.set_cons_zero, List.set_cons_succ, List.getElem_toArray, List.getElem_cons_zero, List.getElem_cons_succ]
            refine wpAnyH_take (i := 7) (v := .bool false) rfl (by kernel_rfl) (by kernel_rfl) (by kernel_rfl) (fun _ _ _ h => h) (Or.inl ⟨by rfl, fun w0 ⟨s1, s2, s3, s4, s5⟩ => ?_⟩) hHeld ?_
            · go_simp
            try simp only [Act.put, List.setIfInBounds_toArray, List.set_cons_zero, List.set_cons_succ, List.getElem_toArray, List.getElem_cons_zero, List.getElem_cons_succ]
            refine wpAnyH_take (i := 8) (v := .pointer (some ⟨g, 0, none⟩)) rfl (by kernel_rfl) (by kernel_rfl) (by kernel_rfl) (fun _ _ _ h => h) (Or.inl ⟨by rfl, fun w0 ⟨s1, s2, s3, s4, s5⟩ => ?_⟩) hHeld ?_
            · go_simp
            try simp only [Act.put, List.setIfInBounds_toArray, List.set_cons_zero, List.set_cons_succ, List.getElem_toArray, List.getElem_cons_zero, List.getElem_cons_succ]
            refine wpAnyH_take (i := 9) (v := .pointer (some ⟨g, 0, none⟩)) rfl (by kernel_rfl) (by kernel_rfl) (by kernel_rfl) (fun _ _ _ h => h) (Or.inl ⟨by rfl, fun w0 ⟨s1, s2, s3, s4, s5⟩ => ?_⟩) hHeld ?_
            · go_simp
            try simp only [Act.put, List.setIfInBounds_toArray, List.set_cons_zero, List.set_cons_succ, List.getElem_toArray, List.getElem_cons_zero, List.getElem_cons_succ]
            refine wpAnyH_take (i := 10) (v := .pointer (some ⟨g, 1, none⟩)) rfl (by kernel_rfl) (by kernel_rfl) (by kernel_rfl) (fun _ _ _ h => h) (Or.inl ⟨by rfl, fun w0 ⟨s1, s2, s3, s4, s5⟩ => ?_⟩) hHeld ?_
            · go_simp
            try simp only [Act.put, List.setIfInBounds_toArray, List.set_cons_zero, List.set_cons_succ, List.getElem_toArray, List.getElem_cons_zero, List.getElem_cons_succ]
            refine wpAnyH_take (i := 11) (v := .slice (some ⟨b1, o1, none⟩) NL cap1) rfl (by kernel_rfl) (by kernel_rfl) (by kernel_rfl) (fun _ _ _ h => h) (Or.inl ⟨by rfl, fun w0 ⟨s1, s2, s3, s4, s5⟩ => ?_⟩) hHeld ?_
            · go_simp
            try simp only [Act.put, List.setIfInBounds_toArray, List.set_cons_zero, List.set_cons_succ, List.getElem_toArray, List.getElem_cons_zero, List.getElem_cons_succ]
            refine wpAnyH_take (i := 12) (v := .int .i64 (k1 : Int)) rfl (by kernel_rfl) (by kernel_rfl) (by kernel_rfl) (fun _ _ _ h => h) (Or.inl ⟨by rfl, fun w0 ⟨s1, s2, s3, s4, s5⟩ => ?_⟩) hHeld ?_
            · go_simp
            try simp only [Act.put, List.setIfInBounds_toArray, List.set_cons_zero, List.set_cons_succ, List.getElem_toArray, List.getElem_cons_zero, List.getElem_cons_succ]
            refine wpAnyH_take (i := 13) (v := .pointer (some ⟨b1, o1 + k1 * 4, none⟩)) rfl (by kernel_rfl) (by kernel_rfl) (by kernel_rfl) (fun _ _ _ h => h) (Or.inl ⟨by rfl, fun w0 ⟨s1, s2, s3, s4, s5⟩ => ?_⟩) hHeld ?_
            · go_simp
            try simp only [Act.put, List.setIfInBounds_toArray, List.set_cons_zero, List.set_cons_succ, List.getElem_toArray, List.getElem_cons_zero, List.getElem_cons_succ]
            refine wpAnyH_take (i := 14) (v := .pointer (some ⟨b1, o1 + k1 * 4 + 2, none⟩)) rfl (by kernel_rfl) (by kernel_rfl) (by kernel_rfl) (fun _ _ _ h => h) (Or.inl ⟨by rfl, fun w0 ⟨s1, s2, s3, s4, s5⟩ => ?_⟩) hHeld ?_
            · go_simp
            try simp only [Act.put, List.setIfInBounds_toArray, List.set_cons_zero, List.set_cons_succ, List.getElem_toArray, List.getElem_cons_zero, List.getElem_cons_succ]
            refine wpAnyH_take (i := 15) (v := .int .i64 p) rfl (by kernel_rfl) (by kernel_rfl) (by kernel_rfl) (fun _ _ _ h => h) (Or.inl ⟨by rfl, fun w0 ⟨s1, s2, s3, s4, s5⟩ => ?_⟩) hHeld ?_
            · go_simp
            try simp only [Act.put, List.setIfInBounds_toArray, List.set_cons_zero, List.set_cons_succ, List.getElem_toArray, List.getElem_cons_zero, List.getElem_cons_succ]
            refine wpAnyH_take (i := 16) (v := .pointer (some ⟨g, 0, none⟩)) rfl (by kernel_rfl) (by kernel_rfl) (by kernel_rfl) (fun _ _ _ h => h) (Or.inl ⟨by rfl, fun w0 ⟨s1, s2, s3, s4, s5⟩ => ?_⟩) hHeld ?_
            · go_simp
            try simp only [Act.put, List.setIfInBounds_toArray, List.set_cons_zero, List.set_cons_succ, List.getElem_toArray, List.getElem_cons_zero, List.getElem_cons_succ]
            refine wpAnyH_take (i := 17) (v := .pointer (some ⟨g, 0, none⟩)) rfl (by kernel_rfl) (by kernel_rfl) (by kernel_rfl) (fun _ _ _ h => h) (Or.inl ⟨by rfl, fun w0 ⟨s1, s2, s3, s4, s5⟩ => ?_⟩) hHeld ?_
            · go_simp
            try simp only [Act.put, List.setIfInBounds_toArray, List.set_cons_zero, List.set_cons_succ, List.getElem_toArray, List.getElem_cons_zero, List.getElem_cons_succ]
            refine wpAnyH_take (i := 18) (v := .pointer (some ⟨g, 1, none⟩)) rfl (by kernel_rfl) (by kernel_rfl) (by kernel_rfl) (fun _ _ _ h => h) (Or.inl ⟨by rfl, fun w0 ⟨s1, s2, s3, s4, s5⟩ => ?_⟩) hHeld ?_
            · go_simp
            try simp only [Act.put, List.setIfInBounds_toArray, List.set_cons_zero, List.set_cons_succ, List.getElem_toArray, List.getElem_cons_zero, List.getElem_cons_succ]
            refine wpAnyH_take (i := 19) (v := .slice (some ⟨b1, o1, none⟩) NL cap1) rfl (by kernel_rfl) (by kernel_rfl) (by kernel_rfl) (fun _ _ _ h => h) (Or.inl ⟨by rfl, fun w0 ⟨s1, s2, s3, s4, s5⟩ => ?_⟩) hHeld ?_
            · go_simp
            try simp only [Act.put, List.setIfInBounds_toArray, List.set_cons_zero, List.set_cons_succ, List.getElem_toArray, List.getElem_cons_zero, List.getElem_cons_succ]
            refine wpAnyH_take (i := 20) (v := .int .i64 (k1 : Int)) rfl (by kernel_rfl) (by kernel_rfl) (by kernel_rfl) (fun _ _ _ h => h) (Or.inl ⟨by rfl, fun w0 ⟨s1, s2, s3, s4, s5⟩ => ?_⟩) hHeld ?_
            · go_simp
            try simp only [Act.put, List.setIfInBounds_toArray, List.set_cons_zero, List.set_cons_succ, List.getElem_toArray, List.getElem_cons_zero, List.getElem_cons_succ]
            refine wpAnyH_take (i := 21) (v := .pointer (some ⟨b1, o1 + k1 * 4, none⟩)) rfl (by kernel_rfl) (by kernel_rfl) (by kernel_rfl) (fun _ _ _ h => h) (Or.inl ⟨by rfl, fun w0 ⟨s1, s2, s3, s4, s5⟩ => ?_⟩) hHeld ?_
            · go_simp
            try simp only [Act.put, List.setIfInBounds_toArray, List.set_cons_zero, List.set_cons_succ, List.getElem_toArray, List.getElem_cons_zero, List.getElem_cons_succ]
            refine wpAnyH_take (i := 22) (v := .pointer (some ⟨b1, o1 + k1 * 4 + 1, none⟩)) rfl (by kernel_rfl) (by kernel_rfl) (by kernel_rfl) (fun _ _ _ h => h) (Or.inl ⟨by rfl, fun w0 ⟨s1, s2, s3, s4, s5⟩ => ?_⟩) hHeld ?_
            · go_simp
            try simp only [Act.put, List.setIfInBounds_toArray, List.set_cons_zero, List.set_cons_succ, List.getElem_toArray, List.getElem_cons_zero, List.getElem_cons_succ]
            refine wpAnyH_take (i := 23) (v := .int .u64 (f1 : Int)) rfl (by kernel_rfl) (by kernel_rfl) (by kernel_rfl) (fun _ _ _ h => h) (Or.inl ⟨by rfl, fun w0 ⟨s1, s2, s3, s4, s5⟩ => ?_⟩) hHeld ?_
            · go_simp
            try simp only [Act.put, List.setIfInBounds_toArray, List.set_cons_zero, List.set_cons_succ, List.getElem_toArray, List.getElem_cons_zero, List.getElem_cons_succ]
            refine wpAnyH_take (i := 24) (v := .agg #[.bool false, .bool false, .int .i64 p, .int .u64 (f1 : Int)]) rfl (by kernel_rfl) (by kernel_rfl) (by kernel_rfl) (fun _ _ _ h => h) (Or.inl ⟨by rfl, fun w0 ⟨s1, s2, s3, s4, s5⟩ => ?_⟩) hHeld ?_
            · go_simp
            try simp only [Act.put, List.setIfInBounds_toArray, List.set_cons_zero, List.set_cons_succ, List.getElem_toArray, List.getElem_cons_zero, List.getElem_cons_succ]
            refine wpAnyH_take (i := 25) (v := .pointer (some ⟨wr.heap.size, 1, none⟩)) rfl (by kernel_rfl) (by kernel_rfl) (by kernel_rfl) (fun _ _ _ h => h) (Or.inl ⟨by rfl, fun w0 ⟨s1, s2, s3, s4, s5⟩ => ?_⟩) hHeld ?_
            · go_simp
            try simp only [Act.put, List.setIfInBounds_toArray, List.set_cons_zero, List.set_cons_succ, List.getElem_toArray, List.getElem_cons_zero, List.getElem_cons_succ]
            refine wpAnyH_take (i := 26) (v := .int .i64 1) rfl (by kernel_rfl) (by kernel_rfl) (by kernel_rfl) (fun _ _ _ h => h) (Or.inl ⟨by rfl, fun w0 ⟨s1, s2, s3, s4, s5⟩ => ?_⟩) hHeld ?_
            · go_simp
            try simp only [Act.put, List.setIfInBounds_toArray, List.set_cons_zero, List.set_cons_succ, List.getElem_toArray, List.getElem_cons_zero, List.getElem_cons_succ]
            refine wpAnyH_ready (rs := [27]) (by kernel_rfl) (by simp) ?_
            refine AllReadyH.cons rfl (fun K hK => ?_) AllReadyH.nil
            go_simp
            refine (hE.out _).mono ?_
            rintro e W9 ⟨rfl, b9⟩
            have b9 := bundrew b9
            have hB9 := W_hid (hBW4.out.trans (b9.mono hBW4.out.size))
            have t0 := cell_keep b9 rfl z1
            have t1 := cell_keep b9 rfl z5
            have t2 := cell_keep b9 rfl z4
            have t3 := cell_keep b9 rfl z3
            have t4 := cell_keep b9 rfl z6
            refine hK.out _ _ ⟨t0, t1, t2, t3, t4⟩ (fun hHeld1 => ?_)
            clear hK K
            try simp only [Act.put, List.setIfInBounds_toArray, List.set_cons_zero, List.set_cons_succ, List.getElem_toArray, List.getElem_cons_zero, List.getElem_cons_succ]
            refine wpAnyH_take (i := 28) (v := .tuple #[.int .u64 ((EN.wd false p f1 : Nat) : Int), .int .i64 0]) rfl (by kernel_rfl) (by kernel_rfl) (by kernel_rfl) (fun _ _ _ h => h) (Or.inl ⟨by rfl, fun w0 ⟨s1, s2, s3, s4, s5⟩ => ?_⟩) hHeld1 ?_
            · go_simp
            try simp only [Act.put, List.setIfInBounds_toArray, List.set_cons_zero, List.set_cons_succ, List.getElem_toArray, List.getElem_cons_zero, List.getElem_cons_succ]
            refine wpAnyH_take (i := 29) (v := .int .u64 ((EN.wd false p f1 : Nat) : Int)) rfl (by kernel_rfl) (by kernel_rfl) (by kernel_rfl) (fun _ _ _ h => h) (Or.inl ⟨by rfl, fun w0 ⟨s1, s2, s3, s4, s5⟩ => ?_⟩) hHeld1 ?_
            · go_simp
            try simp only [Act.put, List.setIfInBounds_toArray, List.set_cons_zero, List.set_cons_succ, List.getElem_toArray, List.getElem_cons_zero, List.getElem_cons_succ]
            refine wpAnyH_take (i := 30) (v := .int .i64 0) rfl (by kernel_rfl) (by kernel_rfl) (by kernel_rfl) (fun _ _ _ h => h) (Or.inl ⟨by rfl, fun w0 ⟨s1, s2, s3, s4, s5⟩ => ?_⟩) hHeld1 ?_
            · go_simp
            try simp only [Act.put, List.setIfInBounds_toArray, List.set_cons_zero, List.set_cons_succ, List.getElem_toArray, List.getElem_cons_zero, List.getElem_cons_succ]
            refine wpAnyH_take (i := 31) (v := .int .u64 ((EN.wd false p f1 : Nat) : Int)) rfl (by kernel_rfl) (by kernel_rfl) (by kernel_rfl) (fun _ _ _ h => h) (Or.inl ⟨by rfl, fun w0 ⟨s1, s2, s3, s4, s5⟩ => ?_⟩) hHeld1 ?_
            · go_simp
            try simp only [Act.put, List.setIfInBounds_toArray, List.set_cons_zero, List.set_cons_succ, List.getElem_toArray, List.getElem_cons_zero, List.getElem_cons_succ]
            refine wpAnyH_take (i := 32) (v := .int .i64 0) rfl (by kernel_rfl) (by kernel_rfl) (by kernel_rfl) (fun _ _ _ h => h) (Or.inl ⟨by rfl, fun w0 ⟨s1, s2, s3, s4, s5⟩ => ?_⟩) hHeld1 ?_
            · go_simp
            try simp only [Act.put, List.setIfInBounds_toArray, List.set_cons_zero, List.set_cons_succ, List.getElem_toArray, List.getElem_cons_zero, List.getElem_cons_succ]
            refine wpAnyH_done (by kernel_rfl) ?_ _
            go_wp2_with fail
            go_ret2
            exact ⟨by rw [hword.out]; rfl, hB9.out⟩
          · have hpg : RX.pg G va = none := by rw [show va = (512 * j + i) * EN.sz 0 from by rw [hS0, hc.out]; exact hvc.out, pg_low hI.out hF1j hi, hc.out, hGc]; rfl
            have cA := at_any D g pg pb n T lv tv L Tl W hDW.out va hva64
            rw [hPB.out.at_none hpg] at cA
            unfold ixI at cA
            replace cA := W_hid cA
            go_wp2_with fail
            refine cA.out.mono ?_
            rintro e W3 ⟨rfl, b3⟩
            have hBW3 := W_hid (hBW.out.trans (b3.mono hBW.out.size))
            have hword : Hid (RX.word F G 1 c = 0) := W_hid (by unfold RX.word; rw [hFt]; simp only; rw [hGc])
            clear cA
            go_wp2_with fail
            go_quiet (fail)
            go_wp2_with fail
            go_ret2
            exact ⟨by rw [hword.out]; rfl, below_drewN hBW3.out nq⟩
        · subst hl2
          have hS0 : EN.sz 1 = S := hS.out
          have hFt1 : F 1 c = none := hFt
          have cT := table_any D g pg pb n T lv tv L Tl W hDW.out (2 - 1) va (by omega) (by omega) hva64
          rw [hTB.out.no (by rw [hS.out, hdiv.out]; exact hFt)] at cT
          unfold ixI at cT
          replace cT := W_hid cT
          have hw3 : IntKind.i64.wrap ((2 : Int) - 1) = ((2 - 1 : Nat) : Int) := by rw [IntWalk.i64_in _ (by omega)]; omega
          have hl1i : (1 : Int) < (2 : Int) := by omega
          go_wp2_with fail
          refine cT.out.mono ?_
          rintro e W2x ⟨rfl, q, rfl⟩
          obtain ⟨W2, hW2⟩ : ∃ x, W.drewN q = x := ⟨_, rfl⟩
          have hDW2 := W_hid (hDW.out.keep (w' := W2) (by rw [← hW2]; exact below_drewN (Below.refl _ _) q))
          have hXW2 := W_hid (hXW.out.keep (w' := W2) (by rw [← hW2]; exact below_drewN (Below.refl _ _) q))
          have hBW2 := W_hid (hBW.out.trans (show Below w.heap.size W W2 from by rw [← hW2]; exact below_drewN (Below.refl _ _) q))
          rw [hW2]
          replace hW2 := W_hid hW2
          have x1 := hXW2.out.cell (j := 1) rfl
          clear cT
          have hGo : (∃ x, G 2 c = some x) ∨ G 2 c = none := by
            cases h : G 2 c with
            | some x => exact .inl ⟨x, rfl⟩
            | none => exact .inr rfl
          rcases hGo with ⟨x, hGc⟩ | hGc
          · obtain ⟨f1, p⟩ := x
            have hpg : RX.pg G va = some (2, f1, p) := by rw [show va = c * EN.sz 1 from by rw [hS0]; exact hvc.out, pg_mid hI.out hFt1, hGc]; rfl
            obtain ⟨k1, hk1, hk1l, hk1e⟩ := hPB.out.at_some hI.out hpg
            have cA := at_any D g pg pb n T lv tv L Tl W2 hDW2.out va hva64
            rw [hk1] at cA
            unfold ixI at cA
            replace cA := W_hid cA
            have hright := (hI.out.page hGc).2.2.1
            have hk10 : (0 : Int) ≤ (k1 : Int) := by omega
            go_wp2_with fail
            refine cA.out.mono ?_
            rintro e W3 ⟨rfl, b3⟩
            have hDW3 := W_hid (hDW2.out.keep b3)
            have hXW3 := W_hid (hXW2.out.keep b3)
            have hBW3 := W_hid (hBW2.out.trans (b3.mono hBW2.out.size))
            obtain ⟨b1, o1, cap1, hv1, -, -, s0, s1, s2, s3, -, -⟩ := hDW3.out.page hk1l
            rw [hk1e] at s1 s2 s3
            simp only at s1 s2 s3
            have d1 := hDW3.out.c1
            rw [hv1] at d1
            have x1 := hXW3.out.cell (j := 1) rfl
            obtain ⟨NL, hNL⟩ : ∃ NL, L.length = NL := ⟨_, rfl⟩
            rw [hNL] at d1 hk1l
            have hk1N : (k1 : Int) < (NL : Int) := by omega
            replace hNL := W_hid hNL
            replace hv1 := W_hid hv1
            have ehu : decide (2 = 2) = true := by decide
            first
              | rw [ehu] at hright
              | (simp only [decide_true] at hright)
            first
              | rw [ehu] at s3
              | (simp only [decide_true] at s3)
            clear s0 b3 cA
            go_wp2_with fail
            go_quiet (fail)
            obtain ⟨W4, hW4⟩ : ∃ x, W3.drewN nq = x := ⟨_, rfl⟩
            have hDW4 := W_hid (hDW3.out.keep (w' := W4) (by rw [← hW4]; exact below_drewN (Below.refl _ _) nq))
            have hXW4 := W_hid (hXW3.out.keep (w' := W4) (by rw [← hW4]; exact below_drewN (Below.refl _ _) nq))
            have hBW4 := W_hid (hBW3.out.trans (show Below w.heap.size W3 W4 from by rw [← hW4]; exact below_drewN (Below.refl _ _) nq))
            rw [hW4]
            replace hW4 := W_hid hW4
            have z1 := cellk d1 hW4.out
            have z3 := cellk s1 hW4.out
            have z4 := cellk s2 hW4.out
            have z5 := cellk s3 hW4.out
            have z6 := cellk x1 hW4.out
            clear d1 s1 s2 s3 x1
            have hE := W_hid (fun W => rEncode_yes false true p f1 (2 : Int) hright W)
            have hword : Hid (RX.word F G 2 c = EN.wd true p f1) := W_hid (by unfold RX.word; rw [hFt]; simp only; rw [hGc]; rfl)
            go_wp2_with fail
            refine wp_region_held_drew (S := (fun w' => w'.cell? ⟨g, 1, none⟩ = some (.slice (some ⟨b1, o1, none⟩) NL cap1) ∧ w'.cell? ⟨b1, o1 + k1 * 4 + 3, none⟩ = some (.bool true) ∧ w'.cell? ⟨b1, o1 + k1 * 4 + 2, none⟩ = some (.int .i64 p) ∧ w'.cell? ⟨b1, o1 + k1 * 4 + 1, none⟩ = some (.int .u64 (f1 : Int)) ∧ w'.cell? ⟨wr.heap.size, 1, none⟩ = some (.int .i64 2))) (by kernel_rfl) ⟨z1, z5, z4, z3, z6⟩ (fun hHeld => ?_)
            refine wpAnyH_take (i := 0) (v := .pointer (some ⟨g, 0, none⟩)) rfl (by kernel_rfl) (by kernel_rfl) (by kernel_rfl) (fun _ _ _ h => h) (Or.inl ⟨by rfl, fun w0 ⟨s1, s2, s3, s4, s5⟩ => ?_⟩) hHeld ?_
            · go_simp
            try simp only [Act.put, List.setIfInBounds_toArray, List.set_cons_zero, List.set_cons_succ, List.getElem_toArray, List.getElem_cons_zero, List.getElem_cons_succ]
            refine wpAnyH_take (i := 1) (v := .pointer (some ⟨g, 0, none⟩)) rfl (by kernel_rfl) (by kernel_rfl) (by kernel_rfl) (fun _ _ _ h => h) (Or.inl ⟨by rfl, fun w0 ⟨s1, s2, s3, s4, s5⟩ => ?_⟩) hHeld ?_
            · go_simp
            try simp only [Act.put, List.setIfInBounds_toArray, List.set_cons_zero, List.set_cons_succ, List.getElem_toArray, List.getElem_cons_zero, List.getElem_cons_succ]
            refine wpAnyH_take (i := 2) (v := .pointer (some ⟨g, 1, none⟩)) rfl (by kernel_rfl) (by kernel_rfl) (by kernel_rfl) (fun _ _ _ h => h) (Or.inl ⟨by rfl, fun w0 ⟨s1, s2, s3, s4, s5⟩ => ?_⟩) hHeld ?_
            · go_simp
            try simp only [Act.put, List.setIfInBounds_toArray, List.set_cons_zero, List.set_cons_succ, List.getElem_toArray, List.getElem_cons_zero, List.getElem_cons_succ]
            refine wpAnyH_take (i := 3) (v := .slice (some ⟨b1, o1, none⟩) NL cap1) rfl (by kernel_rfl) (by kernel_rfl) (by kernel_rfl) (fun _ _ _ h => h) (Or.inl ⟨by rfl, fun w0 ⟨s1, s2, s3, s4, s5⟩ => ?_⟩) hHeld ?_
            · go_simp
            try simp only [Act.put, List.setIfInBounds_toArray, List.set_cons_zero, List.set_cons_succ, List.getElem_toArray, List.getElem_cons_zero, List.getElem_cons_succ]
            refine wpAnyH_take (i := 4) (v := .int .i64 (k1 : Int)) rfl (by kernel_rfl) (by kernel_rfl) (by kernel_rfl) (fun _ _ _ h => h) (Or.inl ⟨by rfl, fun w0 ⟨s1, s2, s3, s4, s5⟩ => ?_⟩) hHeld ?_
            · go_simp
            try simp only [Act.put, List.setIfInBounds_toArray, List.set_cons_zero, List.set_cons_succ, List.getElem_toArray, List.getElem_cons_zero, List.getElem_cons_succ]
            refine wpAnyH_take (i := 5) (v := .pointer (some ⟨b1, o1 + k1 * 4, none⟩)) rfl (by kernel_rfl) (by kernel_rfl) (by kernel_rfl) (fun _ _ _ h => h) (Or.inl ⟨by rfl, fun w0 ⟨s1, s2, s3, s4, s5⟩ => ?_⟩) hHeld ?_
            · go_simp
            try simp only [Act.put, List.setIfInBounds_toArray, List.set_cons_zero, List.set_cons_succ, List.getElem_toArray, List.getElem_cons_zero, List.getElem_cons_succ]
            refine wpAnyH_take (i := 6) (v := .pointer (some ⟨b1, o1 + k1 * 4 + 3, none⟩)) rfl (by kernel_rfl) (by kernel_rfl) (by kernel_rfl) (fun _ _ _ h => h) (Or.inl ⟨by rfl, fun w0 ⟨s1, s2, s3, s4, s5⟩ => ?_⟩) hHeld ?_
            · go_simp
            try simp only [Act.put, List.setIfInBounds_toArray, List.set_cons_zero, List.set_cons_succ, List.getElem_toArray, List.getElem_cons_zero, List.getElem_cons_succ]
            refine wpAnyH_take (i := 7) (v := .bool true) rfl (by kernel_rfl) (by kernel_rfl) (by kernel_rfl) (fun _ _ _ h => h) (Or.inl ⟨by rfl, fun w0 ⟨s1, s2, s3, s4, s5⟩ => ?_⟩) hHeld ?_
            · go_simp
            try simp only [Act.put, List.setIfInBounds_toArray, List.set_cons_zero, List.set_cons_succ, List.getElem_toArray, List.getElem_cons_zero, List.getElem_cons_succ]
            refine wpAnyH_take (i := 8) (v := .pointer (some ⟨g, 0, none⟩)) rfl (by kernel_rfl) (by kernel_rfl) (by kernel_rfl) (fun _ _ _ h => h) (Or.inl ⟨by rfl, fun w0 ⟨s1, s2, s3, s4, s5⟩ => ?_⟩) hHeld ?_
            · go_simp
            try simp only [Act.put, List.setIfInBounds_toArray, List.set_cons_zero, List.set_cons_succ, List.getElem_toArray, List.getElem_cons_zero, List.getElem_cons_succ]
            refine wpAnyH_take (i := 9) (v := .pointer (some ⟨g, 0, none⟩)) rfl (by kernel_rfl) (by kernel_rfl) (by kernel_rfl) (fun _ _ _ h => h) (Or.inl ⟨by rfl, fun w0 ⟨s1, s2, s3, s4, s5⟩ => ?_⟩) hHeld ?_
            · go_simp
            try simp only [Act.put, List.setIfInBounds_toArray, List.set_cons_zero, List.set_cons_succ, List.getElem_toArray, List.getElem_cons_zero, List.getElem_cons_succ]
            refine wpAnyH_take (i := 10) (v := .pointer (some ⟨g, 1, none⟩)) rfl (by kernel_rfl) (by kernel_rfl) (by kernel_rfl) (fun _ _ _ h => h) (Or.inl ⟨by rfl, fun w0 ⟨s1, s2, s3, s4, s5⟩ => ?_⟩) hHeld ?_
            · go_simp
            try simp only [Act.put, List.setIfInBounds_toArray, List.set_cons_zero, List.set_cons_succ, List.getElem_toArray, List.getElem_cons_zero, List.getElem_cons_succ]
            refine wpAnyH_take (i := 11) (v := .slice (some ⟨b1, o1, none⟩) NL cap1) rfl (by kernel_rfl) (by kernel_rfl) (by kernel_rfl) (fun _ _ _ h => h) (Or.inl ⟨by rfl, fun w0 ⟨s1, s2, s3, s4, s5⟩ => ?_⟩) hHeld ?_
            · go_simp
            try simp only [Act.put, List.setIfInBounds_toArray, List.set_cons_zero, List.set_cons_succ, List.getElem_toArray, List.getElem_cons_zero, List.getElem_cons_succ]
            refine wpAnyH_take (i := 12) (v := .int .i64 (k1 : Int)) rfl (by kernel_rfl) (by kernel_rfl) (by kernel_rfl) (fun _ _ _ h => h) (Or.inl ⟨by rfl, fun w0 ⟨s1, s2, s3, s4, s5⟩ => ?_⟩) hHeld ?_
            · go_simp
            try simp only [Act.put, List.setIfInBounds_toArray, List.set_cons_zero, List.set_cons_succ, List.getElem_toArray, List.getElem_cons_zero, List.getElem_cons_succ]
            refine wpAnyH_take (i := 13) (v := .pointer (some ⟨b1, o1 + k1 * 4, none⟩)) rfl (by kernel_rfl) (by kernel_rfl) (by kernel_rfl) (fun _ _ _ h => h) (Or.inl ⟨by rfl, fun w0 ⟨s1, s2, s3, s4, s5⟩ => ?_⟩) hHeld ?_
            · go_simp
            try simp only [Act.put, List.setIfInBounds_toArray, List.set_cons_zero, List.set_cons_succ, List.getElem_toArray, List.getElem_cons_zero, List.getElem_cons_succ]
            refine wpAnyH_take (i := 14) (v := .pointer (some ⟨b1, o1 + k1 * 4 + 2, none⟩)) rfl (by kernel_rfl) (by kernel_rfl) (by kernel_rfl) (fun _ _ _ h => h) (Or.inl ⟨by rfl, fun w0 ⟨s1, s2, s3, s4, s5⟩ => ?_⟩) hHeld ?_
            · go_simp
            try simp only [Act.put, List.setIfInBounds_toArray, List.set_cons_zero, List.set_cons_succ, List.getElem_toArray, List.getElem_cons_zero, List.getElem_cons_succ]
            refine wpAnyH_take (i := 15) (v := .int .i64 p) rfl (by kernel_rfl) (by kernel_rfl) (by kernel_rfl) (fun _ _ _ h => h) (Or.inl ⟨by rfl, fun w0 ⟨s1, s2, s3, s4, s5⟩ => ?_⟩) hHeld ?_
            · go_simp
            try simp only [Act.put, List.setIfInBounds_toArray, List.set_cons_zero, List.set_cons_succ, List.getElem_toArray, List.getElem_cons_zero, List.getElem_cons_succ]
            refine wpAnyH_take (i := 16) (v := .pointer (some ⟨g, 0, none⟩)) rfl (by kernel_rfl) (by kernel_rfl) (by kernel_rfl) (fun _ _ _ h => h) (Or.inl ⟨by rfl, fun w0 ⟨s1, s2, s3, s4, s5⟩ => ?_⟩) hHeld ?_
            · go_simp
            try simp only [Act.put, List.setIfInBounds_toArray, List.set_cons_zero, List.set_cons_succ, List.getElem_toArray, List.getElem_cons_zero, List.getElem_cons_succ]
            refine wpAnyH_take (i := 17) (v := .pointer (some ⟨g, 0, none⟩)) rfl (by kernel_rfl) (by kernel_rfl) (by kernel_rfl) (fun _ _ _ h => h) (Or.inl ⟨by rfl, fun w0 ⟨s1, s2, s3, s4, s5⟩ => ?_⟩) hHeld ?_
            · go_simp
            try simp only [Act.put, List.setIfInBounds_toArray, List.set_cons_zero, List.set_cons_succ, List.getElem_toArray, List.getElem_cons_zero, List.getElem_cons_succ]
            refine wpAnyH_take (i := 18) (v := .pointer (some ⟨g, 1, none⟩)) rfl (by kernel_rfl) (by kernel_rfl) (by kernel_rfl) (fun _ _ _ h => h) (Or.inl ⟨by rfl, fun w0 ⟨s1, s2, s3, s4, s5⟩ => ?_⟩) hHeld ?_
            · go_simp
            try simp only [Act.put, List.setIfInBounds_toArray, List.set_cons_zero, List.set_cons_succ, List.getElem_toArray, List.getElem_cons_zero, List.getElem_cons_succ]
            refine wpAnyH_take (i := 19) (v := .slice (some ⟨b1, o1, none⟩) NL cap1) rfl (by kernel_rfl) (by kernel_rfl) (by kernel_rfl) (fun _ _ _ h => h) (Or.inl ⟨by rfl, fun w0 ⟨s1, s2, s3, s4, s5⟩ => ?_⟩) hHeld ?_
            · go_simp
            try simp only [Act.put, List.setIfInBounds_toArray, List.set_cons_zero, List.set_cons_succ, List.getElem_toArray, List.getElem_cons_zero, List.getElem_cons_succ]
            refine wpAnyH_take (i := 20) (v := .int .i64 (k1 : Int)) rfl (by kernel_rfl) (by kernel_rfl) (by kernel_rfl) (fun _ _ _ h => h) (Or.inl ⟨by rfl, fun w0 ⟨s1, s2, s3, s4, s5⟩ => ?_⟩) hHeld ?_
            · go_simp
            try simp only [Act.put, List.setIfInBounds_toArray, List.set_cons_zero, List.set_cons_succ, List.getElem_toArray, List.getElem_cons_zero, List.getElem_cons_succ]
            refine wpAnyH_take (i := 21) (v := .pointer (some ⟨b1, o1 + k1 * 4, none⟩)) rfl (by kernel_rfl) (by kernel_rfl) (by kernel_rfl) (fun _ _ _ h => h) (Or.inl ⟨by rfl, fun w0 ⟨s1, s2, s3, s4, s5⟩ => ?_⟩) hHeld ?_
            · go_simp
            try simp only [Act.put, List.setIfInBounds_toArray, List.set_cons_zero, List.set_cons_succ, List.getElem_toArray, List.getElem_cons_zero, List.getElem_cons_succ]
            refine wpAnyH_take (i := 22) (v := .pointer (some ⟨b1, o1 + k1 * 4 + 1, none⟩)) rfl (by kernel_rfl) (by kernel_rfl) (by kernel_rfl) (fun _ _ _ h => h) (Or.inl ⟨by rfl, fun w0 ⟨s1, s2, s3, s4, s5⟩ => ?_⟩) hHeld ?_
            · go_simp
            try simp only [Act.put, List.setIfInBounds_toArray, List.set_cons_zero, List.set_cons_succ, List.getElem_toArray, List.getElem_cons_zero, List.getElem_cons_succ]
            refine wpAnyH_take (i := 23) (v := .int .u64 (f1 : Int)) rfl (by kernel_rfl) (by kernel_rfl) (by kernel_rfl) (fun _ _ _ h => h) (Or.inl ⟨by rfl, fun w0 ⟨s1, s2, s3, s4, s5⟩ => ?_⟩) hHeld ?_
            · go_simp
            try simp only [Act.put, List.setIfInBounds_toArray, List.set_cons_zero, List.set_cons_succ, List.getElem_toArray, List.getElem_cons_zero, List.getElem_cons_succ]
            refine wpAnyH_take (i := 24) (v := .agg #[.bool false, .bool true, .int .i64 p, .int .u64 (f1 : Int)]) rfl (by kernel_rfl) (by kernel_rfl) (by kernel_rfl) (fun _ _ _ h => h) (Or.inl ⟨by rfl, fun w0 ⟨s1, s2, s3, s4, s5⟩ => ?_⟩) hHeld ?_
            · go_simp
            try simp only [Act.put, List.setIfInBounds_toArray, List.set_cons_zero, List.set_cons_succ, List.getElem_toArray, List.getElem_cons_zero, List.getElem_cons_succ]
            refine wpAnyH_take (i := 25) (v := .pointer (some ⟨wr.heap.size, 1, none⟩)) rfl (by kernel_rfl) (by kernel_rfl) (by kernel_rfl) (fun _ _ _ h => h) (Or.inl ⟨by rfl, fun w0 ⟨s1, s2, s3, s4, s5⟩ => ?_⟩) hHeld ?_
            · go_simp
            try simp only [Act.put, List.setIfInBounds_toArray, List.set_cons_zero, List.set_cons_succ, List.getElem_toArray, List.getElem_cons_zero, List.getElem_cons_succ]
            refine wpAnyH_take (i := 26) (v := .int .i64 2) rfl (by kernel_rfl) (by kernel_rfl) (by kernel_rfl) (fun _ _ _ h => h) (Or.inl ⟨by rfl, fun w0 ⟨s1, s2, s3, s4, s5⟩ => ?_⟩) hHeld ?_
            · go_simp
            try simp only [Act.put, List.setIfInBounds_toArray, List.set_cons_zero, List.set_cons_succ, List.getElem_toArray, List.getElem_cons_zero, List.getElem_cons_succ]
            refine wpAnyH_ready (rs := [27]) (by kernel_rfl) (by simp) ?_
            refine AllReadyH.cons rfl (fun K hK => ?_) AllReadyH.nil
            go_simp
            refine (hE.out _).mono ?_
            rintro e W9 ⟨rfl, b9⟩
            have b9 := bundrew b9
            have hB9 := W_hid (hBW4.out.trans (b9.mono hBW4.out.size))
            have t0 := cell_keep b9 rfl z1
            have t1 := cell_keep b9 rfl z5
            have t2 := cell_keep b9 rfl z4
            have t3 := cell_keep b9 rfl z3
            have t4 := cell_keep b9 rfl z6
            refine hK.out _ _ ⟨t0, t1, t2, t3, t4⟩ (fun hHeld1 => ?_)
            clear hK K
            try simp only [Act.put, List.setIfInBounds_toArray, List.set_cons_zero, List.set_cons_succ, List.getElem_toArray, List.getElem_cons_zero, List.getElem_cons_succ]
            refine wpAnyH_take (i := 28) (v := .tuple #[.int .u64 ((EN.wd true p f1 : Nat) : Int), .int .i64 0]) rfl (by kernel_rfl) (by kernel_rfl) (by kernel_rfl) (fun _ _ _ h => h) (Or.inl ⟨by rfl, fun w0 ⟨s1, s2, s3, s4, s5⟩ => ?_⟩) hHeld1 ?_
            · go_simp
            try simp only [Act.put, List.setIfInBounds_toArray, List.set_cons_zero, List.set_cons_succ, List.getElem_toArray, List.getElem_cons_zero, List.getElem_cons_succ]
            refine wpAnyH_take (i := 29) (v := .int .u64 ((EN.wd true p f1 : Nat) : Int)) rfl (by kernel_rfl) (by kernel_rfl) (by kernel_rfl) (fun _ _ _ h => h) (Or.inl ⟨by rfl, fun w0 ⟨s1, s2, s3, s4, s5⟩ => ?_⟩) hHeld1 ?_
            · go_simp
            try simp only [Act.put, List.setIfInBounds_toArray, List.set_cons_zero, List.set_cons_succ, List.getElem_toArray, List.getElem_cons_zero, List.getElem_cons_succ]
            refine wpAnyH_take (i := 30) (v := .int .i64 0) rfl (by kernel_rfl) (by kernel_rfl) (by kernel_rfl) (fun _ _ _ h => h) (Or.inl ⟨by rfl, fun w0 ⟨s1, s2, s3, s4, s5⟩ => ?_⟩) hHeld1 ?_
            · go_simp
            try simp only [Act.put, List.setIfInBounds_toArray, List.set_cons_zero, List.set_cons_succ, List.getElem_toArray, List.getElem_cons_zero, List.getElem_cons_succ]
            refine wpAnyH_take (i := 31) (v := .int .u64 ((EN.wd true p f1 : Nat) : Int)) rfl (by kernel_rfl) (by kernel_rfl) (by kernel_rfl) (fun _ _ _ h => h) (Or.inl ⟨by rfl, fun w0 ⟨s1, s2, s3, s4, s5⟩ => ?_⟩) hHeld1 ?_
            · go_simp
            try simp only [Act.put, List.setIfInBounds_toArray, List.set_cons_zero, List.set_cons_succ, List.getElem_toArray, List.getElem_cons_zero, List.getElem_cons_succ]
            refine wpAnyH_take (i := 32) (v := .int .i64 0) rfl (by kernel_rfl) (by kernel_rfl) (by kernel_rfl) (fun _ _ _ h => h) (Or.inl ⟨by rfl, fun w0 ⟨s1, s2, s3, s4, s5⟩ => ?_⟩) hHeld1 ?_
            · go_simp
            try simp only [Act.put, List.setIfInBounds_toArray, List.set_cons_zero, List.set_cons_succ, List.getElem_toArray, List.getElem_cons_zero, List.getElem_cons_succ]
            refine wpAnyH_done (by kernel_rfl) ?_ _
            go_wp2_with fail
            go_ret2
            exact ⟨by rw [hword.out]; rfl, hB9.out⟩
          · have hpg : RX.pg G va = none := by rw [show va = c * EN.sz 1 from by rw [hS0]; exact hvc.out, pg_mid hI.out hFt1, hGc]; rfl
            have cA := at_any D g pg pb n T lv tv L Tl W2 hDW2.out va hva64
            rw [hPB.out.at_none hpg] at cA
            unfold ixI at cA
            replace cA := W_hid cA
            go_wp2_with fail
            refine cA.out.mono ?_
            rintro e W3 ⟨rfl, b3⟩
            have hBW3 := W_hid (hBW2.out.trans (b3.mono hBW2.out.size))
            have hword : Hid (RX.word F G 2 c = 0) := W_hid (by unfold RX.word; rw [hFt]; simp only; rw [hGc])
            clear cA
            go_wp2_with fail
            go_quiet (fail)
            go_wp2_with fail
            go_ret2
            exact ⟨by rw [hword.out]; rfl, below_drewN hBW3.out nq⟩
        · have cT := table_any D g pg pb n T lv tv L Tl W hDW.out (l - 1) va (by omega) (by omega) hva64
          rw [hTB.out.no (by rw [hS.out, hdiv.out]; exact hFt)] at cT
          unfold ixI at cT
          replace cT := W_hid cT
          have hw3 : IntKind.i64.wrap ((l : Int) - 1) = ((l - 1 : Nat) : Int) := by rw [IntWalk.i64_in _ (by omega)]; omega
          have hl1i : (1 : Int) < (l : Int) := by omega
          go_wp2_with fail
          refine cT.out.mono ?_
          rintro e W2x ⟨rfl, q, rfl⟩
          obtain ⟨W2, hW2⟩ : ∃ x, W.drewN q = x := ⟨_, rfl⟩
          have hDW2 := W_hid (hDW.out.keep (w' := W2) (by rw [← hW2]; exact below_drewN (Below.refl _ _) q))
          have hXW2 := W_hid (hXW.out.keep (w' := W2) (by rw [← hW2]; exact below_drewN (Below.refl _ _) q))
          have hBW2 := W_hid (hBW.out.trans (show Below w.heap.size W W2 from by rw [← hW2]; exact below_drewN (Below.refl _ _) q))
          rw [hW2]
          replace hW2 := W_hid hW2
          have x1 := hXW2.out.cell (j := 1) rfl
          clear cT
          have hG : G l c = none := by
            cases h : G l c with
            | none => rfl
            | some x => exact absurd (hI.out.page h).2.1 (by omega)
          have hword : Hid (RX.word F G l c = 0) := W_hid (by unfold RX.word; rw [hFt]; simp only; rw [hG])
          have hl3 : (2 : Int) < (l : Int) := by omega
          go_wp2_with fail
          go_ret2
          exact ⟨by rw [hword.out]; rfl, hBW2.out⟩
end
end Go.Proofs.YtigbjhmodpplbaaGreatDoor

namespace Go.Proofs.YtigbjhmodpplbaaGreatDoor
open Go.ChangeShapes Go.WideShapes Go.ChangeAt Go.RowKit
set_option linter.unusedVariables false
set_option linter.unusedSimpArgs false

theorem tb_nodup8 {F : RX.Tabs} {G : RX.Pags} {r n : Nat} {Tl : List RX.Tb} (I : RX.Inv F G r n) (h : RX.TB Tl F r) : (Tl.map (·.1)).Nodup := by
  unfold List.Nodup
  rw [List.pairwise_map]
  refine List.Pairwise.imp_of_mem (fun {a b} ha hb hab e => ?_) h.nd
  obtain ⟨j, h1, h2⟩ := (h.mem a).1 ha
  obtain ⟨j', h3, h4⟩ := (h.mem b).1 hb
  rw [← e] at h3
  obtain ⟨e1, e2⟩ := I.inj h1 h3
  apply hab
  obtain ⟨a1, a2, a3⟩ := a
  obtain ⟨b1, b2, b3⟩ := b
  simp only at e e1 e2 h2 h4
  subst e; subst e1; subst e2
  rw [h2, h4]
/-- Both trees say one word. -/
theorem both_word {W0 : World} {g pg pb n m b : Nat} {M : Nat → Option (Nat → Nat)} {T : Nat → Bool} {F : RX.Tabs} {G : RX.Pags} {D : List Nat} {g2 pg2 pb2 : Nat} {lv tv : Value} {L : List RX.Pg} {Tl : List RX.Tb} (hF : Full W0 g pg pb n m T 0 b M F G) (hDM : DM W0 D g2 pg2 pb2 n T lv tv L Tl) (hPB : RX.PB L G) (hTB : RX.TB Tl F 0) (hU : RX.Used F G) (hTl : Tl.length ≤ 100000) (f : Nat) (hf : f < 18446744073709551616) (i : Int) :
    ∃ (v : Nat) (x : Bool), (∀ W, Below W0.heap.size W0 W → Calls Tryz.prog 17 #[.pointer (some ⟨g, 0, none⟩), .int .u64 (f : Int), .int .i64 i] W fun e w' => e = .returned (.tuple #[.int .u64 (v : Int), .bool x]) ∧ Below W.heap.size W w') ∧
      (∀ W, Below W0.heap.size W0 W → Calls Tryz.prog 18 #[.pointer (some ⟨g2, 0, none⟩), .int .u64 (f : Int), .int .i64 i] W fun e w' => e = .returned (.tuple #[.int .u64 (v : Int), .bool x]) ∧ Below W.heap.size W w') ∧
      ((∃ y ∈ Tl, y.1 = f) → 0 ≤ i → i < 512 → x = true) := by
  by_cases hi : i < 0 ∨ 512 ≤ i
  · refine ⟨0, false, fun W hW => ?_, fun W hW => rWord_out f i hi, fun _ h1 h2 => by omega⟩
    refine (Word_out g pg 0 b f i M W (hF.keep hW).tt.tm hi).mono ?_
    rintro e w' ⟨rfl, rfl⟩
    exact ⟨rfl, Below.refl _ _⟩
  · obtain ⟨k, rfl⟩ : ∃ k : Nat, i = k := ⟨i.toNat, by omega⟩
    have hk : k < 512 := by omega
    by_cases hex : ∃ l j, F l j = some f
    · obtain ⟨l, j, hFj⟩ := hex
      obtain ⟨ws, hws, hw⟩ := hF.rep.yes hFj
      refine ⟨RX.word F G l (512 * j + k), true, fun W hW => ?_, fun W hW => rWord_yes f k l j (hDM.keep hW) hF.inv hPB hTB hU hk hTl hFj, fun _ _ _ => rfl⟩
      refine (Word_any g pg 0 b f k M W (hF.keep hW).tt.tm hf hk).mono ?_
      rintro e w' ⟨rfl, hb⟩
      refine ⟨?_, hb⟩
      rw [hws]
      simp only [Option.getD_some, Option.isSome_some]
      rw [hw k hk]
    · have hM : M f = none := hF.rep.no fun l j h => hex ⟨l, j, h⟩
      have hno : ∀ x ∈ Tl, x.1 ≠ f := fun x hx e => by
        obtain ⟨j, h1, -⟩ := (hTB.mem x).1 hx
        rw [e] at h1
        exact hex ⟨_, _, h1⟩
      refine ⟨0, false, fun W hW => ?_, fun W hW => rWord_no f k (hDM.keep hW) hk hTl hno, fun ⟨y, h1, h2⟩ _ _ => absurd h2 (hno y h1)⟩
      refine (Word_any g pg 0 b f k M W (hF.keep hW).tt.tm hf hk).mono ?_
      rintro e w' ⟨rfl, hb⟩
      refine ⟨?_, hb⟩
      rw [hM]
      rfl

set_option maxRecDepth 100000 in
set_option maxHeartbeats 40000000 in
theorem RadixWords_walk (a0 : Int) (o1 : Option Addr) (n1 c1 : Nat) (l1 : List OpT) (a2 a3 : Int) (w : World) (hk : KT w) (w0 : (Lit.int .i64 a0).wf = true) (w1 : OS8 w o1 n1 c1 l1) (w2 : (Lit.int .u64 a2).wf = true) (w3 : (Lit.int .i64 a3).wf = true) :
    Calls Tryz.prog 3 #[.int .i64 a0, .slice o1 n1 c1, .int .u64 a2, .int .i64 a3] w fun e w' => e = .returned (.bool true) ∧ Below w.heap.size w w' := by
  have hb2 := bounds_u64 w2
  obtain ⟨f2, rfl⟩ : ∃ x : Nat, a2 = x := ⟨a2.toNat, by omega⟩
  have hf2 : f2 < 18446744073709551616 := by omega
  clear hb2 w2 w3
  obtain ⟨hlen, hll, hops⟩ := w1
  have hlen2 : (n1 : Int) ≤ 9223372036854775807 := by unfold maxLen at hlen; omega
  have hS := W_hid (shown_any w hk)
  replace hops := W_hid hops
  replace hll := W_hid hll
  replace hk := W_hid hk
  clear hlen w0
  go_enter Tryz.func3, Tryz.ntmps3
  go_wp2_with fail
  refine hS.out.mono ?_
  rintro e w1 ⟨rfl, bel1⟩
  replace bel1 := W_hid bel1
  clear hS
  by_cases hlo : a0 < 1
  · go_wp2_with fail
    go_ret
    exact ⟨rfl, bel1.out⟩
  · by_cases hhi : 2000 < a0
    · go_wp2_with fail
      go_ret
      exact ⟨rfl, bel1.out⟩
    · obtain ⟨n, rfl⟩ : ∃ n : Nat, a0 = n := ⟨a0.toNat, by omega⟩
      have hn1 : 1 ≤ n := by omega
      have hn2 : n ≤ 2000 := by omega
      have hO := W_hid (fun w hk => opened_any n hn1 (by omega) w hk)
      have hN := W_hid (rNew_yes n hn1 (by omega))
      have hT := W_hid (fun pg pb w h => rNew_tree pg pb n 0 (fresh n) w h (by omega) (low_fresh n hn1))
      go_wp2_with fail
      refine (hO.out w1 (hk.out.keep bel1.out)).mono ?_
      rintro e w2 ⟨g, pg, pb, b, M, rfl, hg, hpg, hpb, hb, hF, bel2⟩
      have hs1 := bel1.out.size
      have hs2 := bel2.size
      replace bel2 := W_hid (bel1.out.trans (bel2.mono bel1.out.size))
      replace hF := W_hid hF
      clear bel1 hO
      go_wp2_with fail
      refine (hN.out w2).mono ?_
      rintro e w3 ⟨rfl, hrl, bel3⟩
      replace hT := W_hid (hT.out _ _ w3 hrl)
      have hs3 := bel3.size
      replace bel3 := W_hid bel3
      clear hrl hN
      go_wp2_with fail
      refine hT.out.mono ?_
      rintro e w4 ⟨g2, tv, D0, rfl, hdm, hbut, hD0⟩
      have b34 := bel3.out.trans (hbut.below (B := w2.heap.size) (by simp) hs3)
      obtain ⟨D, hD, hds⟩ := ds_new (n := n) hn1 hF.out hdm b34 (fun x hx => by rcases hD0 x hx with e | e | e <;> omega)
      have hDw : Hid (∀ x ∈ D, w.heap.size ≤ x) := W_hid (fun x hx => by have := hD x hx; omega)
      have hB4 := W_hid (bel2.out.trans (b34.mono (by omega)))
      obtain ⟨pg2, hpg2⟩ : ∃ x, x = w2.heap.size + 1 := ⟨_, rfl⟩
      obtain ⟨pb2, hpb2⟩ : ∃ x, x = w2.heap.size := ⟨_, rfl⟩
      rw [← hpg2, ← hpb2] at hds
      replace hds := W_hid hds
      replace hpg2 := W_hid hpg2
      have hgs : Hid (w.heap.size ≤ g ∧ w.heap.size ≤ pg ∧ w.heap.size ≤ pb ∧ w.heap.size ≤ b) := W_hid (by omega)
      clear hT b34 hbut hdm hD0 hD hpb2 hF bel2 bel3 hg hpg hpb hb hs1 hs2 hs3
      go_upto_block 0 with fail
      go_cut [17] from 55 to 144 (fun _ wx => ∃ (D : List Nat) (T : Nat → Bool) (F : RX.Tabs) (G : RX.Pags) (K : Nat), K ≤ 30 ∧ Hid (DS wx g pg pb n (words n) 0 b D g2 pg2 pb2 T T F F G G K) ∧ Hid (Below w.heap.size w wx))
      case first =>
        go_wp2_with fail
        go_loopw [17] (fun i wr => ∃ (j : Nat) (D : List Nat) (T : Nat → Bool) (F : RX.Tabs) (G : RX.Pags), j ≤ n1 ∧ j ≤ 30 ∧ i = .int .i64 (j : Int) ∧ Hid (DS wr g pg pb n (words n) 0 b D g2 pg2 pb2 T T F F G G j) ∧ Hid (∀ x ∈ D, w.heap.size ≤ x) ∧ Hid (Below w.heap.size w wr)) (fun i _ => n1 - (intOf i).toNat)
        case atStart => exact ⟨0, D, _, _, _, by omega, by omega, rfl, hds, hDw, hB4⟩
        case round =>
          clear hds hDw hB4
          obtain ⟨j, D, T, F, G, hj, hj2, rfl, hds, hDw, hbel⟩ := hrel
          by_cases hlt : j < n1 ∧ j < 30
          · obtain ⟨hl1, hl2⟩ := hlt
            obtain ⟨blk, off, rfl, hblk, hc0, hc1, hc2, hc3, hc4, hz1, hz2, hz3, hz4, hz5, hz6⟩ := hops.out j (by rw [hll.out]; exact hl1)
            obtain ⟨⟨kd, x, f, p, u⟩, hx⟩ : ∃ x, l1[j]'(by rw [hll.out]; exact hl1) = x := ⟨_, rfl⟩
            rw [hx] at hc0 hc1 hc2 hc3 hc4 hz1 hz2 hz3 hz4 hz5 hz6
            simp only at hc0 hc1 hc2 hc3 hc4 hz1 hz2 hz3 hz4 hz5 hz6
            have k0 : wr.cell? ⟨blk, off + j * 5, none⟩ = some (.int .i64 kd) := by rw [hbel.out.cell (p := ⟨blk, off + j * 5, none⟩) hblk]; exact hc0
            have k1 : wr.cell? ⟨blk, off + j * 5 + 1, none⟩ = some (.int .u64 x) := by rw [hbel.out.cell (p := ⟨blk, off + j * 5 + 1, none⟩) hblk]; exact hc1
            have k2 : wr.cell? ⟨blk, off + j * 5 + 2, none⟩ = some (.int .u64 f) := by rw [hbel.out.cell (p := ⟨blk, off + j * 5 + 2, none⟩) hblk]; exact hc2
            have k3 : wr.cell? ⟨blk, off + j * 5 + 3, none⟩ = some (.int .i64 p) := by rw [hbel.out.cell (p := ⟨blk, off + j * 5 + 3, none⟩) hblk]; exact hc3
            have k4 : wr.cell? ⟨blk, off + j * 5 + 4, none⟩ = some (.bool u) := by rw [hbel.out.cell (p := ⟨blk, off + j * 5 + 4, none⟩) hblk]; exact hc4
            have hdo := W_hid (does_any g pg pb n (words n) 0 b D g2 pg2 pb2 T F G j wr hds.out kd x f p u ⟨hz1, hz2⟩ hz3 hz4 hz5 hz6 (by omega))
            clear hx hc0 hc1 hc2 hc3 hc4 hz1 hz2 hz3 hz4 hz5 hz6
            go_wp2_with fail
            refine hdo.out.mono ?_
            rintro e w5 ⟨rfl, D', T', F', G', hd5, hb5, hD5⟩
            have hbl5 := W_hid (hbel.out.trans (hb5.below (B := w.heap.size) (fun y hy => by
              rcases List.mem_append.1 hy with h | h
              · have := hgs.out; simp at h; omega
              · exact hDw.out y h) hbel.out.size))
            have hDw5 : Hid (∀ x ∈ D', w.heap.size ≤ x) := W_hid (fun y hy => by
              rcases hD5 y hy with h | h
              · exact hDw.out y h
              · have := hbel.out.size; omega)
            replace hd5 := W_hid hd5
            clear hb5 hD5 hdo
            go_wp2_with fail
            go_roundw
            case rel => exact ⟨j + 1, D', T', F', G', by omega, by omega, by go_num, hd5, hDw5, hbl5⟩
            case measure => simp [intOf]; omega
          · have hex : (¬ j < n1) ∨ (j < n1 ∧ ¬ j < 30) := by omega
            rcases hex with h1 | ⟨h1, h2⟩
            all_goals
              go_wp2_with fail
              go_meet
              exact ⟨D, T, F, G, j, hj2, hds, hbel⟩
      case rest =>
      clear hds hB4
      obtain ⟨D, T, F, G, K, hK, hds, hbel⟩ := hcut
      obtain ⟨M1, hF1⟩ := hds.out.full
      have hgood := hds.out.good
      obtain ⟨lv0, tv0, L, Tl, hDM, hPB, hTB, hLl, hTl⟩ := hds.out.doc
      have hTl2 : Tl.length ≤ 100000 := by omega
      have hT := W_hid (rTables_any D g2 pg2 pb2 n T lv0 tv0 L Tl wc hDM (tb_nodup8 hF1.inv hTB) hTl2)
      have hBW := W_hid (fun f hf i => both_word hF1 hDM hPB hTB hgood.used hTl2 f hf i)
      have hlt8 := W_hid (fun (y : RX.Tb) (hy : y ∈ Tl) => (hDM.tlt y hy).1)
      clear hds hDM hPB hTB hgood hF1 hops hll
      go_wp2_with fail
      refine hT.out.mono ?_
      rintro e w3 ⟨v3, O, rfl, hUp, ho3, b3⟩
      have hmem : Hid (∀ i (hi : i < O.length), ∃ y ∈ Tl, y.1 = O[i]) := W_hid (fun i hi => by
        have := (hUp.mem O[i]).1 (List.getElem_mem hi)
        rw [List.take_length, List.mem_map] at this
        obtain ⟨y, h1, h2⟩ := this
        exact ⟨y, h1, h2⟩)
      have hNC : NC w3 (match v3 with | .slice a _ _ => a | _ => none) O := by
        obtain ⟨a, c, rfl⟩ := Own.form ho3
        exact NC.own ho3
      obtain ⟨a3', c3, rfl⟩ := Own.form ho3
      simp only at hNC
      obtain ⟨N, hN⟩ : ∃ N, O.length = N := ⟨_, rfl⟩
      rw [hN]
      have hOl : N ≤ 9223372036854775807 := by have := own_lens ho3; obtain ⟨_, _, -, h1, h2⟩ := this; unfold maxLen at h2; omega
      replace hN := W_hid hN
      replace hNC := W_hid hNC
      have b3 := W_hid b3
      clear hT ho3 hUp
      go_wp2_with fail
      go_loopw [19] (fun v wr => ∃ k : Nat, k ≤ N ∧ k ≤ 12 ∧ v = .int .i64 (k : Int) ∧ Hid (Below w3.heap.size w3 wr)) (fun v _ => N - (intOf v).toNat)
      case atStart => exact ⟨0, by omega, by omega, rfl, W_hid (Below.refl _ _)⟩
      case round =>
        obtain ⟨k, hkN, hk12, rfl, hbr⟩ := hrel
        by_cases hlt : k < N ∧ k < 12
        · obtain ⟨hl1, hl2⟩ := hlt
          have hkO : k < O.length := by rw [hN.out]; exact hl1
          obtain ⟨bo, oo, rfl, hcell⟩ := hNC.out.cell k hkO
          obtain ⟨y, hy1, hy2⟩ := hmem.out k hkO
          obtain ⟨fk, hfk⟩ : ∃ fk, O[k] = fk := ⟨_, rfl⟩
          rw [hfk] at hcell hy2
          have hfk64 : fk < 18446744073709551616 := by have := hlt8.out y hy1; omega
          have hBk := W_hid (fun i => hBW.out fk hfk64 i)
          have hyy := W_hid (show ∃ y ∈ Tl, y.1 = fk from ⟨y, hy1, hy2⟩)
          clear hfk hkO hy1 hy2
          obtain ⟨wa, rfl⟩ : ∃ wa, wa = wr := ⟨wr, rfl⟩
          have hd12 : decide ((k : Int) < 12) = true := by simp; omega
          go_wp2_with fail
          go_loopw [20] (fun v wr => ∃ j : Nat, j ≤ 512 ∧ v = .int .i64 (j : Int) ∧ Hid (Below w3.heap.size w3 wr)) (fun v _ => 512 - (intOf v).toNat)
          case atStart => exact ⟨0, by omega, rfl, hbr⟩
          case round =>
            clear hbr
            obtain ⟨j, hj, rfl, hbr⟩ := hrel
            by_cases hjl : j < 512
            · obtain ⟨v, x, hP, hR, hx⟩ := hBk.out (j : Int)
              obtain rfl := hx hyy.out (by omega) (by omega)
              have hc1 := cell_keep hbr.out rfl hcell
              have cP := W_hid (hP wr (b3.out.trans (hbr.out.mono b3.out.size)))
              have hR := W_hid hR
              have hq : ((v : Int) != (v : Int)) = false := by simp
              clear hP hx
              go_wp2_with fail
              refine cP.out.mono ?_
              rintro e w5 ⟨rfl, b5⟩
              have hb5 := W_hid (hbr.out.trans (b5.mono hbr.out.size))
              have hc2 := cell_keep hb5.out rfl hcell
              have cR := W_hid (hR.out w5 (b3.out.trans (hb5.out.mono b3.out.size)))
              clear cP b5 hc1
              go_wp2_with fail
              refine cR.out.mono ?_
              rintro e w6 ⟨rfl, b6⟩
              have hb6 := W_hid (hb5.out.trans (b6.mono hb5.out.size))
              clear cR b6 hc2
              go_wp2_with fail
              go_roundw
              case rel => exact ⟨j + 1, by omega, by go_num, hb6⟩
              case measure => simp [intOf]; omega
            · have hj5 : (512 : Int) ≤ (j : Int) := by omega
              go_wp2_with fail
              go_roundw
              case rel => exact ⟨k + 1, by omega, by omega, by go_num, hbr⟩
              case measure => simp [intOf]; omega
        · obtain ⟨v, x, hP, hR, -⟩ := hBW.out f2 hf2 a3
          have cP := W_hid (hP wr (b3.out.trans (hbr.out.mono b3.out.size)))
          have hR := W_hid hR
          have hq : ((v : Int) == (v : Int)) = true := by simp
          have hqx : (x == x) = true := by simp
          have hex : (¬ k < N) ∨ (k < N ∧ ¬ k < 12) := by omega
          clear hP
          rcases hex with h1 | ⟨h1, h2⟩
          all_goals
            go_wp2_with fail
            refine cP.out.mono ?_
            rintro e w5 ⟨rfl, b5⟩
            have hb5 := W_hid (hbr.out.trans (b5.mono hbr.out.size))
            have cR := W_hid (hR.out w5 (b3.out.trans (hb5.out.mono b3.out.size)))
            clear b5
            go_wp2_with fail
            refine cR.out.mono ?_
            rintro e w6 ⟨rfl, b6⟩
            have hb6 := W_hid (hb5.out.trans (b6.mono hb5.out.size))
            clear cR b6
            go_wp2_with fail
            go_ret
            refine ⟨?_, hbel.out.trans ((b3.out.trans (hb6.out.mono b3.out.size)).mono hbel.out.size)⟩
            first
              | rfl
              | simp

set_option maxRecDepth 100000 in
theorem RadixWords_lifted (os : Os) (started : os.Started) (H : Type) (enc : TypeId × Value → H) :
    ReturnsInHanded {} Tryz.checked os 3 .any (fun w args => (Rows.radixWordsSpec.pre enc Tryz.prog Tryz.f3 [] false w args ∧ laidMetH Tryz.prog [("hayward/entry.kinds", Rows.laid_hayward_entry_kinds)] w) ∧ sizedMet enc Tryz.prog Tryz.f3 (OpenSpec.ofChange Rows.radixWordsSpec) false w args)
      (Rows.radixWordsSpec.post enc Tryz.prog Tryz.f3 false true false false) := by
  refine returnsInHanded_of_change_and (C := Tryz.checked) (X := fun w _ => laidMetH Tryz.prog [("hayward/entry.kinds", Rows.laid_hayward_entry_kinds)] w) (fun _ _ _ hh h => h.of_heap hh) (by kernel_rfl) started (by kernel_rfl) Tryz.func3
    (ChangeSpec.witness_shaped (enc := enc) (C := Tryz.checked) (os := os) (X := fun w _ => laidMetH Tryz.prog [("hayward/entry.kinds", Rows.laid_hayward_entry_kinds)] w) false (World.doorLaid Tryz.prog 400 os) #[.int .i64 0, .slice none 0 0, .int .u64 0, .int .i64 0] 8 rfl (World.shaped_of_RefB (by kernel_rfl) (by kernel_rfl)) (by kernel_rfl) (by kernel_rfl) (by kernel_rfl) (kinds_met os _)) ?_
  intro W base args ds gs before hval0 hW hcnd hsz0 hL _
  have hval : ∀ (j : Nat) t v, Tryz.f3.params[j]? = some t → args[j]? = some v → Value.okWide Tryz.prog W .any base t v := hval0
  have hW' := hW
  obtain ⟨p, q, hA0, hV, rfl, hfz, hnd⟩ := hW
  have hA : DataW.TrodAll enc Tryz.prog W 0 (fun _ => true) true Tryz.f3.params.toList args.toList ds p := hA0
  rw [Tryz.params3] at hA hval
  obtain ⟨v0, vs0, d0, ds0, p0, q0, hargs, rfl, rfl, h0, r0⟩ := trodAll_cons hA
  obtain ⟨v1, vs1, d1, ds1, p1, q1, rfl, rfl, rfl, h1, r1⟩ := trodAll_cons r0
  obtain ⟨v2, vs2, d2, ds2, p2, q2, rfl, rfl, rfl, h2, r2⟩ := trodAll_cons r1
  obtain ⟨v3, vs3, d3, ds3, p3, q3, rfl, rfl, rfl, h3, r3⟩ := trodAll_cons r2
  obtain ⟨rfl, rfl, rfl⟩ := trodAll_nil r3
  obtain rfl : args = #[v0, v1, v2, v3] := by cases args; simp_all
  obtain ⟨rfl, rfl⟩ := trodVars_none hV
  obtain ⟨a0, rfl, rfl, rfl, w0⟩ := open_int Tryz.underlying3 (hval 0 3 v0 rfl rfl) h0
  have k1 := h1
  have lt1 : ∀ x ∈ p1, x.block < W.heap.size := by obtain ⟨m, hm⟩ := k1; exact DataW.trod_lt m _ _ _ hm
  obtain ⟨o1, n1, c1, l1, rfl, w1⟩ := open_ops8 (hval 1 22 v1 rfl rfl) h1
  obtain ⟨a2, rfl, rfl, rfl, w2⟩ := open_int Tryz.underlying23 (hval 2 23 v2 rfl rfl) h2
  obtain ⟨a3, rfl, rfl, rfl, w3⟩ := open_int Tryz.underlying3 (hval 3 3 v3 rfl rfl) h3
  clear hA0 hval0
  refine (RadixWords_walk a0 o1 n1 c1 l1 a2 a3 W (kt_of_laid hL) w0 w1 w2 w3).mono fun e W' ⟨he, bel⟩ => ?_
  subst he
  exact ⟨_, rfl, _, _, _, [], _, [], hW', trodAll_mk1 (shut_bool Tryz.underlying4 _), (trodAll_cons_mk (shut_int Tryz.underlying3 w0) (trodAll_cons_mk (Below.trod laidOut (by kernel_rfl) (of_decide_eq_true (by kernel_rfl)) k1 bel lt1) (trodAll_cons_mk (shut_int Tryz.underlying23 w2) (trodAll_cons_mk (shut_int Tryz.underlying3 w3) trodAll_mk0)))), rfl, bel.frame _, fun h => by cases h⟩

/-- The given statement of RadixWords. -/
theorem RadixWords_holds : Rows.RadixWordsSaid :=
  OpenClaim.holds_of_wide 3 Tryz.f3 rfl rfl rfl rfl rfl rfl rfl ⟨rfl, rfl, rfl, rfl, rfl⟩ rfl rfl rfl rfl rfl (by kernel_rfl) Tryz.func3 (by kernel_rfl)
    (of_decide_eq_true (by kernel_rfl)) (by unfold Func.isWrapper; first | (rw [if_pos (by decide +kernel)]; kernel_rfl) | (rw [if_neg (by decide +kernel)]; exact ⟨rfl, rfl⟩))
    (fun os started H enc _ => RadixWords_lifted os started H enc)

/-- The given card of RadixWords: the row, with what it lists tied to the text of the program. -/
theorem RadixWords_card_holds : Rows.RadixWordsCardSaid :=
  Claim7.holds_tied_plain_at .later [] [.data] true Rows.radixWordsCard.stood.harness Rows.radixWordsCard.stood.looks
    RadixWords_holds (fun _ h => by cases h) (by kernel_rfl) (fun _ h => by cases h) radixWords_row_tie rfl ⟨rfl, rfl⟩ (by kernel_rfl) rfl
    (fun f fn hf hfn => by
      obtain rfl : f = 3 := Option.some.inj ((show Tryz.prog.funcNamed "hayward/haywardlaw08.RadixWords" = some 3 by kernel_rfl).symm.trans hf) |>.symm
      obtain rfl : fn = Tryz.f3 := (Option.some.inj (Tryz.func3.symm.trans hfn)).symm
      exact ⟨by kernel_rfl, fun j t ht => by
        rw [Tryz.params3] at ht
        have hm : t ∈ [3, 22, 23, 3] := by simpa using Array.mem_of_getElem? ht
        have hall : ([3, 22, 23, 3].all fun u => !Tryz.prog.wantsStandIn u) = true := by kernel_rfl
        exact (show Tryz.prog.wantsStandIn t = false by simpa using List.all_eq_true.1 hall t hm)⟩)
    (by kernel_rfl)

end Go.Proofs.YtigbjhmodpplbaaGreatDoor
