/- Contracts of package inode's Read, Write, Trunc, of stores that are there. -/
import Derived.Test.YtieneehpijilpaaInoMake
namespace Go.Proofs.Ytieneehpijilpaa
open Go.ChangeShapes Go.WideShapes Go.ChangeAt Go.RowKit Go.Maps
set_option linter.unusedVariables false
set_option linter.unusedSimpArgs false
namespace IN

/-! Where a list ends. -/
theorem nxt_ge : ∀ {b : Int} {l : List (Int × ByteArray)}, EM.ok b l = true → l ≠ [] → b ≤ EM.nxt b l - 1
  | _, [], _, h => absurd rfl h
  | b, x :: r, h, _ => by
    obtain ⟨h1, h2, h3, h4⟩ := EM.ok_cons.1 h
    have hf : EM.fin x = x.1 + x.2.size := rfl
    show b ≤ EM.nxt (EM.fin x + 1) r - 1
    cases r with
    | nil => show b ≤ EM.fin x + 1 - 1; omega
    | cons y r' => have := nxt_ge h4 (by simp); omega
theorem none_from : ∀ {b : Int} {l : List (Int × ByteArray)}, EM.ok b l = true → ∀ i, EM.nxt b l - 1 ≤ i → l ≠ [] → EM.cont l i = none
  | _, [], _, _, _, _ => rfl
  | b, x :: r, h, i, hi, _ => by
    obtain ⟨h1, h2, h3, h4⟩ := EM.ok_cons.1 h
    have hi' : EM.nxt (EM.fin x + 1) r - 1 ≤ i := hi
    show (EM.get x i).or (EM.cont r i) = none
    cases r with
    | nil =>
      have : EM.nxt (EM.fin x + 1) [] = EM.fin x + 1 := rfl
      rw [EM.get_none (.inr (by omega))]; rfl
    | cons y r' =>
      have h5 := nxt_ge h4 (by simp)
      rw [EM.get_none (.inr (by omega)), none_from h4 i hi' (by simp)]; rfl
theorem cnt_nxt : ∀ {b : Int} {l : List (Int × ByteArray)}, EM.ok b l = true → l ≠ [] → (EM.cnt l : Int) ≤ EM.nxt b l - 1 - b
  | _, [], _, h => absurd rfl h
  | b, x :: r, h, _ => by
    obtain ⟨h1, h2, h3, h4⟩ := EM.ok_cons.1 h
    have hf : EM.fin x = x.1 + x.2.size := rfl
    rw [EM.cnt_cons]
    show _ ≤ EM.nxt (EM.fin x + 1) r - 1 - b
    cases r with
    | nil => show _ ≤ EM.fin x + 1 - 1 - b; rw [EM.cnt_nil]; omega
    | cons y r' => have := cnt_nxt h4 (by simp); omega
theorem ends_eq {l : List (Int × ByteArray)} (h : l ≠ []) : ends l = EM.nxt 0 l - 1 := by
  cases l with
  | nil => exact absurd rfl h
  | cons x r => rfl
theorem cnt_ends {l : List (Int × ByteArray)} (h : EM.ok 0 l = true) : (EM.cnt l : Int) ≤ ends l := by
  by_cases e : l = []
  · subst e; exact Int.le_refl _
  · rw [ends_eq e]; have := cnt_nxt h e; omega
theorem none_ends {l : List (Int × ByteArray)} (h : EM.ok 0 l = true) (i : Int) (hi : ends l ≤ i) : EM.cont l i = none := by
  by_cases e : l = []
  · subst e; rfl
  · rw [ends_eq e] at hi; exact none_from h i hi e
theorem ends_le {l : List (Int × ByteArray)} (h : EM.ok 0 l = true) {b : Int} (hb : 0 ≤ b) (hc : ∀ i, b ≤ i → EM.cont l i = none) : ends l ≤ b := by
  rcases List.eq_nil_or_concat l with rfl | ⟨q, x, rfl⟩
  · exact hb
  · rw [List.concat_eq_append] at h hc ⊢
    have e : ends (q ++ [x]) = EM.fin x := by
      rw [ends_eq (by simp), EM.nxt_snoc]; omega
    rw [e]
    have h0 : 0 < x.2.size := EM.wk_pos (EM.ok_wk h) x (by simp)
    have hf : EM.fin x = x.1 + x.2.size := rfl
    rcases Int.lt_or_le b (EM.fin x) with hlt | hle
    · obtain ⟨c, hx⟩ := EM.get_some (x := x) (i := EM.fin x - 1) (by omega) (by omega)
      have h1 := hc (EM.fin x - 1) (by omega)
      rw [EM.cont_append, EM.cont_one, hx] at h1
      cases hq : EM.cont q (EM.fin x - 1) <;> rw [hq] at h1 <;> cases h1
    · exact hle
theorem cnt_part (lo hi : Int) : ∀ l : List (Int × ByteArray), EM.cnt (EM.part lo hi l) ≤ EM.cnt l
  | [] => Nat.le_refl _
  | x :: r => by
    have ih := cnt_part lo hi r
    rw [EM.cnt_cons]
    unfold EM.part at ih ⊢
    cases h : EM.piece lo hi x with
    | none => rw [List.filterMap_cons_none h]; omega
    | some y =>
      rw [List.filterMap_cons_some h, EM.cnt_cons]
      obtain ⟨h1, h2, h3⟩ := EM.piece_fin h
      have hf : EM.fin x = x.1 + x.2.size := rfl
      have hg : EM.fin y = y.1 + y.2.size := rfl
      omega
theorem ends_part {l : List (Int × ByteArray)} (h : EM.ok 0 l = true) {s : Int} (hs : 0 ≤ s) : EM.ok 0 (EM.part 0 s l) = true ∧ ends (EM.part 0 s l) ≤ s :=
  ⟨EM.ok_part h 0 s (Int.le_refl _), ends_le (EM.ok_part h 0 s (Int.le_refl _)) hs fun i hi => by rw [EM.cont_part, if_neg (by omega)]⟩
theorem ends_wr {l : List (Int × ByteArray)} (h : EM.ok 0 l = true) {f : Int} {d : ByteArray} (hf : 0 ≤ f) (hd : f + d.size ≤ 1048576) {s : Int} (hs : ends l ≤ s) (h0 : 0 ≤ s) :
    EM.ok 0 (EM.wr l f d) = true ∧ ends (EM.wr l f d) ≤ if d.size = 0 then s else max s (f + d.size) := by
  refine ⟨EM.wr_ok h hf hd, ?_⟩
  by_cases e : d.size = 0
  · rw [if_pos e, EM.wr_nil h e]; exact hs
  · rw [if_neg e]
    exact ends_le (EM.wr_ok h hf hd) (by omega) fun i hi => by
      rw [EM.wr_cont h hf hd, if_neg (by omega)]
      exact none_ends h i (by omega)

/-! Read. -/
def rdErr (S : Int → Option Nd) (n f m : Int) : Int := askR S n fun d => if d.kind = 1 then rdE d.l d.size f m else 14
def rdRes (S : Int → Option Nd) (n f m : Int) : ByteArray := match S n with
  | none => ⟨#[]⟩
  | some d => if d.kind = 1 then strOf (rdV d.l d.size f m) else ⟨#[]⟩
section
variable {base sg mb I L B k : Nat} {M : Int → Option Nat} {S : Int → Option Nd}
theorem ask_file {w : World} (n : Int) {I L left : Int} (h : PM base w sg mb M I L left S) (hn : IS.I64 n) :
    Calls Try.prog 35 #[.int .i64 n, .slice (some ⟨w.heap.size, 0, none⟩) 3 3] (w.alloc (.cells #[.func (.func 36) #[.pointer (some ⟨sg, 0, none⟩)] #[], .func (.func 42) #[.pointer (some ⟨sg, 0, none⟩)] #[], .func (.func 47) #[.pointer (some ⟨sg, 0, none⟩)] #[]] 45)) fun e w' => e = .returned (.int .i64 (askR S n fun d => if d.kind = 1 then 0 else 14)) ∧ Below w.heap.size w w' :=
  ask_three 47 (fun d => if d.kind = 1 then 0 else 14) n h hn (fun w => by kernel_rfl) (fun d hS W hW => file_any n d W (h.keep hW) hn hS)

set_option maxRecDepth 100000 in
set_option maxHeartbeats 4000000 in
theorem Read_no (n f m : Int) (w : World) (r : Int) (h : PS base w sg mb M I L B k S) (hn : IS.I64 n) (hr : (askR S n fun d => if d.kind = 1 then 0 else 14) = r) (hr0 : r ≠ 0) :
    Calls Try.prog 21 #[.pointer (some ⟨sg, 0, none⟩), .int .i64 n, .int .i64 f, .int .i64 m] w fun e w' => e = .returned (.tuple #[.string ⟨#[]⟩, .int .i64 r]) ∧ Below w.heap.size w w' := by
  have hmf : ∀ (fn : Fn) (first cap : Array Value) (w : World), (Instr.makeFunc fn first cap).run Try.prog w = .ok (.func fn first cap) w := fun _ _ _ _ => rfl
  have cA := ask_file n h.pm hn
  rw [hr] at cA
  have cA := W_hid cA
  clear h hr
  go_enter Try.func21, Try.ntmps21
  go_wp2_with fail
  refine cA.out.mono ?_
  rintro e w1 ⟨rfl, b1⟩
  go_wp2_with fail
  go_ret2
  exact ⟨rfl, b1⟩

set_option maxRecDepth 100000 in
set_option maxHeartbeats 4000000 in
theorem Read_yes (n f m : Int) (d : Nd) (w : World) (h : PS base w sg mb M I L B k S) (hn : IS.I64 n) (hf : I64 f) (hm : I64 m) (hS : S n = some d) (hk : d.kind = 1) :
    Calls Try.prog 21 #[.pointer (some ⟨sg, 0, none⟩), .int .i64 n, .int .i64 f, .int .i64 m] w fun e w' => e = .returned (.tuple #[.string (strOf (rdV d.l d.size f m)), .int .i64 (rdE d.l d.size f m)]) ∧ Below w.heap.size w w' := by
  have hmf : ∀ (fn : Fn) (first cap : Array Value) (w : World), (Instr.makeFunc fn first cap).run Try.prog w = .ok (.func fn first cap) w := fun _ _ _ _ => rfl
  have cA := ask_file n h.pm hn
  have hr : (askR S n fun d => if d.kind = 1 then (0 : Int) else 14) = 0 := by simp [askR, hS, hk]
  rw [hr] at cA
  have cA := W_hid cA
  have H := W_hid h
  have hS := W_hid hS
  clear h hr
  go_enter Try.func21, Try.ntmps21
  go_wp2_with fail
  refine cA.out.mono ?_
  rintro e w1 ⟨rfl, b1⟩
  have h1 := H.out.keep b1
  have c0 := h1.pm.box.cell (j := 0) rfl
  have hlk := h1.pm.mp.look n hn
  obtain ⟨g, v, hM, hN, hge, hgs, hgm⟩ := h1.pm.has hS.out
  rw [hM] at hlk
  simp only [IS.ptr] at hlk
  have hg := h1.fn.good n d hS.out
  obtain ⟨ao, nn, cc, rfl, hx1, -⟩ := hN.2
  have hb1 := W_hid b1
  have cR := W_hid (Read_any ao nn cc d.l d.size f m w1.drew hx1 (ok_fit (Int.le_refl _) hg.ok) ⟨by have := hg.size; omega, by have := hg.size; omega⟩ hf hm)
  have hNN := W_hid (show Blk w1.drew g 74 (ncl d (.slice ao nn cc)) from hN.1)
  have hN1 := W_hid (fun w' (hb : Below w1.heap.size w1 w') => hN.1.keep hb)
  clear h1 hN hM b1 hx1 hg
  go_wp2_with fail
  refine wp_region_held_drew (S := (fun w' => Blk w' g 74 (ncl d (.slice ao nn cc)))) (by kernel_rfl) hNN.out (fun hHeld => ?_)
  refine wpAnyH_take (i := 0) (v := .pointer (some ⟨g, 0, none⟩)) rfl (by kernel_rfl) (by kernel_rfl) (by kernel_rfl) (fun _ _ _ h => h) (Or.inl ⟨by rfl, fun w0 s1 => ?_⟩) hHeld ?_
  · go_simp
  try simp only [Act.put, List.setIfInBounds_toArray, List.set_cons_zero, List.set_cons_succ, List.getElem_toArray, List.getElem_cons_zero, List.getElem_cons_succ]
  refine wpAnyH_take (i := 1) (v := .pointer (some ⟨g, 0, none⟩)) rfl (by kernel_rfl) (by kernel_rfl) (by kernel_rfl) (fun _ _ _ h => h) (Or.inl ⟨by rfl, fun w0 s1 => ?_⟩) hHeld ?_
  · go_simp
  try simp only [Act.put, List.setIfInBounds_toArray, List.set_cons_zero, List.set_cons_succ, List.getElem_toArray, List.getElem_cons_zero, List.getElem_cons_succ]
  refine wpAnyH_take (i := 2) (v := .pointer (some ⟨g, 4, none⟩)) rfl (by kernel_rfl) (by kernel_rfl) (by kernel_rfl) (fun _ _ _ h => h) (Or.inl ⟨by rfl, fun w0 s1 => ?_⟩) hHeld ?_
  · go_simp
  try simp only [Act.put, List.setIfInBounds_toArray, List.set_cons_zero, List.set_cons_succ, List.getElem_toArray, List.getElem_cons_zero, List.getElem_cons_succ]
  refine wpAnyH_take (i := 3) (v := .slice ao nn cc) rfl (by kernel_rfl) (by kernel_rfl) (by kernel_rfl) (fun _ _ _ h => h) (Or.inl ⟨by rfl, fun w0 s1 => ?_⟩) hHeld ?_
  · (have q := Blk.cell (j := 4) s1 rfl; go_simp)
  try simp only [Act.put, List.setIfInBounds_toArray, List.set_cons_zero, List.set_cons_succ, List.getElem_toArray, List.getElem_cons_zero, List.getElem_cons_succ]
  refine wpAnyH_take (i := 4) (v := .pointer (some ⟨g, 0, none⟩)) rfl (by kernel_rfl) (by kernel_rfl) (by kernel_rfl) (fun _ _ _ h => h) (Or.inl ⟨by rfl, fun w0 s1 => ?_⟩) hHeld ?_
  · go_simp
  try simp only [Act.put, List.setIfInBounds_toArray, List.set_cons_zero, List.set_cons_succ, List.getElem_toArray, List.getElem_cons_zero, List.getElem_cons_succ]
  refine wpAnyH_take (i := 5) (v := .pointer (some ⟨g, 0, none⟩)) rfl (by kernel_rfl) (by kernel_rfl) (by kernel_rfl) (fun _ _ _ h => h) (Or.inl ⟨by rfl, fun w0 s1 => ?_⟩) hHeld ?_
  · go_simp
  try simp only [Act.put, List.setIfInBounds_toArray, List.set_cons_zero, List.set_cons_succ, List.getElem_toArray, List.getElem_cons_zero, List.getElem_cons_succ]
  refine wpAnyH_take (i := 6) (v := .pointer (some ⟨g, 3, none⟩)) rfl (by kernel_rfl) (by kernel_rfl) (by kernel_rfl) (fun _ _ _ h => h) (Or.inl ⟨by rfl, fun w0 s1 => ?_⟩) hHeld ?_
  · go_simp
  try simp only [Act.put, List.setIfInBounds_toArray, List.set_cons_zero, List.set_cons_succ, List.getElem_toArray, List.getElem_cons_zero, List.getElem_cons_succ]
  refine wpAnyH_take (i := 7) (v := .int .i64 d.size) rfl (by kernel_rfl) (by kernel_rfl) (by kernel_rfl) (fun _ _ _ h => h) (Or.inl ⟨by rfl, fun w0 s1 => ?_⟩) hHeld ?_
  · (have q := Blk.cell (j := 3) s1 rfl; go_simp)
  try simp only [Act.put, List.setIfInBounds_toArray, List.set_cons_zero, List.set_cons_succ, List.getElem_toArray, List.getElem_cons_zero, List.getElem_cons_succ]
  refine wpAnyH_take (i := 8) (v := .int .i64 f) rfl (by kernel_rfl) (by kernel_rfl) (by kernel_rfl) (fun _ _ _ h => h) (Or.inl ⟨by rfl, fun w0 s1 => ?_⟩) hHeld ?_
  · go_simp
  try simp only [Act.put, List.setIfInBounds_toArray, List.set_cons_zero, List.set_cons_succ, List.getElem_toArray, List.getElem_cons_zero, List.getElem_cons_succ]
  refine wpAnyH_take (i := 9) (v := .int .i64 m) rfl (by kernel_rfl) (by kernel_rfl) (by kernel_rfl) (fun _ _ _ h => h) (Or.inl ⟨by rfl, fun w0 s1 => ?_⟩) hHeld ?_
  · go_simp
  try simp only [Act.put, List.setIfInBounds_toArray, List.set_cons_zero, List.set_cons_succ, List.getElem_toArray, List.getElem_cons_zero, List.getElem_cons_succ]
  refine wpAnyH_ready (rs := [10]) (by kernel_rfl) (by simp) ?_
  refine AllReadyH.cons rfl (fun K hK => ?_) AllReadyH.nil
  go_simp
  refine cR.out.mono ?_
  rintro e w2 ⟨rfl, hb2⟩
  have hN2 := hN1.out w2 (Own.bundrew hb2)
  refine hK.out _ _ hN2 (fun hHeld1 => ?_)
  clear hK K
  try simp only [Act.put, List.setIfInBounds_toArray, List.set_cons_zero, List.set_cons_succ, List.getElem_toArray, List.getElem_cons_zero, List.getElem_cons_succ]
  refine wpAnyH_take (i := 11) (v := .string (strOf (rdV d.l d.size f m))) rfl (by kernel_rfl) (by kernel_rfl) (by kernel_rfl) (fun _ _ _ h => h) (Or.inl ⟨by rfl, fun w0 s1 => ?_⟩) hHeld1 ?_
  · go_simp
  try simp only [Act.put, List.setIfInBounds_toArray, List.set_cons_zero, List.set_cons_succ, List.getElem_toArray, List.getElem_cons_zero, List.getElem_cons_succ]
  refine wpAnyH_take (i := 12) (v := .int .i64 (rdE d.l d.size f m)) rfl (by kernel_rfl) (by kernel_rfl) (by kernel_rfl) (fun _ _ _ h => h) (Or.inl ⟨by rfl, fun w0 s1 => ?_⟩) hHeld1 ?_
  · go_simp
  try simp only [Act.put, List.setIfInBounds_toArray, List.set_cons_zero, List.set_cons_succ, List.getElem_toArray, List.getElem_cons_zero, List.getElem_cons_succ]
  refine wpAnyH_take (i := 13) (v := .string (strOf (rdV d.l d.size f m))) rfl (by kernel_rfl) (by kernel_rfl) (by kernel_rfl) (fun _ _ _ h => h) (Or.inl ⟨by rfl, fun w0 s1 => ?_⟩) hHeld1 ?_
  · go_simp
  try simp only [Act.put, List.setIfInBounds_toArray, List.set_cons_zero, List.set_cons_succ, List.getElem_toArray, List.getElem_cons_zero, List.getElem_cons_succ]
  refine wpAnyH_take (i := 14) (v := .int .i64 (rdE d.l d.size f m)) rfl (by kernel_rfl) (by kernel_rfl) (by kernel_rfl) (fun _ _ _ h => h) (Or.inl ⟨by rfl, fun w0 s1 => ?_⟩) hHeld1 ?_
  · go_simp
  try simp only [Act.put, List.setIfInBounds_toArray, List.set_cons_zero, List.set_cons_succ, List.getElem_toArray, List.getElem_cons_zero, List.getElem_cons_succ]
  refine wpAnyH_done (by kernel_rfl) ?_ _
  go_wp2_with fail
  go_ret2
  exact ⟨rfl, hb1.out.trans ((Own.bundrew hb2).mono hb1.out.size)⟩
end
end IN
end Go.Proofs.Ytieneehpijilpaa
