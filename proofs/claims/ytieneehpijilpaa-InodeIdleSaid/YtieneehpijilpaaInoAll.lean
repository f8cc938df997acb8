/- slices.Sorted of a map's numbers, also of none; contract of package inode's All. -/
import Derived.Test.YtieneehpijilpaaInoMake
import Derived.Test.YtieneehpijilpaaISortTab
import Derived.Test.YtieneehpijilpaaOwn2
namespace Go.Proofs.Ytieneehpijilpaa
open Go.ChangeShapes Go.WideShapes Go.ChangeAt Go.RowKit
set_option linter.unusedVariables false
set_option linter.unusedSimpArgs false
namespace IS

set_option maxRecDepth 100000 in
set_option maxHeartbeats 1000000 in
theorem insert_nil (w : World) : Calls Try.prog 78 #[.slice none 0 0, .int .i64 0, .int .i64 0] w fun e w' => e = .returned (.tuple #[]) ∧ w' = w := by
  go_enter Try.func78, Try.ntmps78
  go_wp2_with fail
  go_loopw [6] (fun v wr => v = .int .i64 1 ∧ wr = w) (fun _ _ => 0)
  case atStart => exact ⟨rfl, rfl⟩
  case round =>
    obtain ⟨rfl, rfl⟩ := hrel
    go_wp2_with fail
    go_end0
    exact ⟨rfl, rfl⟩
set_option maxRecDepth 100000 in
set_option maxHeartbeats 1000000 in
theorem pdq_nil (k : Nat) (w : World) : Calls Try.prog 74 #[.slice none 0 0, .int .i64 0, .int .i64 0, .int .i64 (k : Int)] w fun e w' => e = .returned (.tuple #[]) ∧ w' = w := by
  have c := W_hid (insert_nil w)
  go_enter Try.func74, Try.ntmps74
  go_wp2_with fail
  go_loopw [1, 2, 3, 8, 9] (fun a b l _ _ wr => a = .int .i64 0 ∧ b = .int .i64 0 ∧ l = .int .i64 (k : Int) ∧ wr = w) (fun _ _ _ _ _ _ => 0)
  case atStart => exact ⟨rfl, rfl, rfl, rfl⟩
  case round =>
    obtain ⟨rfl, rfl, rfl, rfl⟩ := hrel
    go_wp2_with fail
    refine c.out.mono ?_
    rintro e w' ⟨rfl, rfl⟩
    go_wp2_with fail
    refine bodyPost_ret (results_none rfl _ _ _) rfl ?_
    exact ⟨rfl, rfl⟩
set_option maxRecDepth 100000 in
set_option maxHeartbeats 1000000 in
theorem Sort_nil (w : World) : Calls Try.prog 61 #[.slice none 0 0] w fun e w' => e = .returned (.tuple #[]) ∧ w' = w := by
  have cL := Len_any 0 w (by omega) (by omega)
  have cP := W_hid (fun k : Nat => pdq_nil k w)
  go_enter Try.func61, Try.ntmps61
  go_wp2_with (first
    | (go_at_call 75; refine cL.mono ?_; rintro e w' ⟨⟨k, rfl, hk⟩, rfl⟩)
    | (go_at_call 74; refine (cP.out _).mono ?_; rintro e w' ⟨rfl, rfl⟩))
  go_end0
  exact ⟨rfl, rfl⟩

/-- A slice value that reads as these numbers. -/
def LC (base : Nat) (w : World) (v : Value) (l : List Nat) : Prop := ∃ ao cap, v = .slice ao l.length cap ∧ ∀ i (hi : i < l.length), ∃ blk off, ao = some ⟨blk, off, none⟩ ∧ base ≤ blk ∧ blk < w.heap.size ∧ w.cell? ⟨blk, off + i, none⟩ = some (.int .i64 (l[i] : Int))
theorem LC.nlist {base : Nat} {w : World} {v : Value} {l : List Nat} (h : Nlist base w v l) : LC base w v l := by
  obtain ⟨g, cap, rest, rfl, h1, h2, h3⟩ := h.ex
  refine ⟨_, _, rfl, fun i hi => ⟨g, 0, rfl, h1, h3.lt, ?_⟩⟩
  rw [Nat.zero_add]
  refine h3.cell ?_
  rw [List.getElem?_append_left (by simpa using hi), List.getElem?_map, List.getElem?_eq_getElem hi]
  rfl

set_option maxRecDepth 100000 in
set_option maxHeartbeats 4000000 in
theorem Sorted_nums (Bm b : Nat) (M : Int → Option Nat) (w : World) (hBm : Bm < w.heap.size) (hb : b < w.heap.size) (hm : w.cell? ⟨Bm, 0, none⟩ = some (.map (some b))) (hMB : MB w b M) (ks : List Nat) (hk : Nums M ks) (hr : ks.Pairwise (· < ·)) (hlen : ks.length < 65536) :
    Calls Try.prog 37 #[.func (.func 62) #[] #[.pointer (some ⟨Bm, 0, none⟩)]] w fun e w' => ∃ v, e = .returned v ∧ LC w.heap.size w' v ks ∧ Below w.heap.size w w' := by
  cases ks with
  | nil =>
    have cC := W_hid (Collect_any Bm b M w hBm hb hm hMB)
    have hS := W_hid Sort_nil
    have hk := W_hid hk
    clear hm hMB
    go_enter Try.func37, Try.ntmps37
    go_wp2_with fail
    refine cC.out.mono ?_
    rintro e w1 ⟨v, ss, rfl, hN, hown, hnil, hB⟩
    have hss : ss = [] := List.eq_nil_of_length_eq_zero (by have := hN.len_eq hk.out; simpa using this)
    obtain rfl := hnil.2 hss
    clear hN hown hnil hss
    go_wp2_with fail
    refine (hS.out w1).mono ?_
    rintro e w2 ⟨rfl, rfl⟩
    go_wp2_with fail
    go_ret
    exact ⟨_, rfl, ⟨none, 0, rfl, fun i hi => by simp at hi⟩, hB⟩
  | cons x r =>
    refine (Sorted_all Bm b M w hBm hb hm hMB (fun ss hs => by rw [hs.len_eq hk]; exact hlen) ⟨x, (hk.2 x).1 (by simp)⟩).mono ?_
    rintro e w' ⟨v, l, rfl, hN, hp, hl, hB⟩
    have hl1 : l.Pairwise (· < ·) := by
      refine List.pairwise_iff_getElem.2 fun i j hi hj hij => ?_
      have h3 := List.pairwise_iff_getElem.1 hp i j hi hj hij
      have h4 := List.pairwise_iff_getElem.1 hN.1 i j hi hj hij
      omega
    have e : l = x :: r := IN.rise_eq hl1 hr fun y => by rw [hN.2 y, hk.2 y]
    subst e
    exact ⟨v, rfl, LC.nlist hl, hB⟩
end IS

namespace IN
/-- Inodes, as cells. -/
def stcl (l : List (Nat × Nd)) : List Value := l.flatMap fun x => stl (x.1 : Int) x.2
theorem stcl_len (l : List (Nat × Nd)) : (stcl l).length = l.length * 6 := by
  induction l with
  | nil => rfl
  | cons x r ih => simp only [stcl, List.flatMap_cons, List.length_append, List.length_cons] at ih ⊢; rw [ih]; simp [stl]; omega
theorem stcl_app (a b : List (Nat × Nd)) : stcl (a ++ b) = stcl a ++ stcl b := List.flatMap_append
theorem stcl_one (x : Nat × Nd) : stcl [x] = stl (x.1 : Int) x.2 := by simp [stcl]
theorem info_stat : Own.Info Try.prog 41 (.agg zl.toArray) 6 48 := Own.info_of (by kernel_rfl) rfl (by decide)
theorem stl_cells (w : World) (n : Int) (d : Nd) (g : Nat) (hB : Blk w g 41 (stl n d)) : Own.Src w 6 (.slice (some ⟨g, 0, none⟩) 1 1) 1 (stl n d) :=
  .inr ⟨_, _, rfl, by simp [stl], fun j v hj => by
    have := hB.cell hj
    rw [Addr.add_lit, Nat.zero_add]
    exact this⟩
theorem stl_one (n : Int) (d : Nd) : ∀ u ∈ stl n d, u.oneCell' = true := by
  intro u hu
  simp only [stl, List.mem_cons, List.not_mem_nil, or_false] at hu
  rcases hu with rfl | rfl | rfl | rfl | rfl | rfl <;> rfl

section
variable {base sg mb I L B k : Nat} {M : Int → Option Nat} {S : Int → Option Nd}
set_option maxRecDepth 100000 in
theorem ask_one {w : World} {I L left : Int} (h : PM base w sg mb M I L left S) :
    Calls Try.prog 35 #[.int .i64 0, .slice (some ⟨w.heap.size, 0, none⟩) 1 1] (w.alloc (.cells #[.func (.func 36) #[.pointer (some ⟨sg, 0, none⟩)] #[]] 45)) fun e w' => e = .returned (.int .i64 0) ∧ Below w.heap.size w w' := by
  have hal := (Below.refl w.heap.size w).alloc (Nat.le_refl _) (.cells #[.func (.func 36) #[.pointer (some ⟨sg, 0, none⟩)] #[]] 45)
  refine (first_one (.pointer (some ⟨sg, 0, none⟩)) _ 0 0 w.heap.size _ (chk_blk w [.func (.func 36) #[.pointer (some ⟨sg, 0, none⟩)] #[]] _ rfl)
    (fun w => by kernel_rfl) (fun W hW => made_some _ W (h.keep (hal.trans (hW.mono hal.size))))).mono ?_
  rintro e w' ⟨rfl, hb⟩
  exact ⟨rfl, hal.trans (hb.mono hal.size)⟩

set_option maxRecDepth 100000 in
set_option maxHeartbeats 8000000 in
theorem All_any (w : World) (h : PS base w sg mb M I L B k S) :
    Calls Try.prog 14 #[.pointer (some ⟨sg, 0, none⟩)] w fun e w' => ∃ v, e = .returned v ∧ w'.ownsRow w.heap.size 41 6 v (lst S I).length (stcl (lst S I)) ∧ Below w.heap.size w w' := by
  have hmf : ∀ (fn : Fn) (first cap : Array Value) (w : World), (Instr.makeFunc fn first cap).run Try.prog w = .ok (.func fn first cap) w := fun _ _ _ _ => rfl
  have cA := W_hid (ask_one h.pm)
  have hlen := lst_len S I
  have hI := h.lim.1
  have hN := W_hid h.nums
  have hrise := W_hid (ks_rise S I)
  have hkl := W_hid (ks_len S I)
  have hgood := W_hid h.fn
  have hmem : Hid (∀ j (hj : j < (lst S I).length), 1 ≤ (lst S I)[j].1 ∧ (lst S I)[j].1 ≤ I ∧ S ((lst S I)[j].1 : Int) = some (lst S I)[j].2) := W_hid (fun j hj => mem_lst.1 (List.getElem_mem hj))
  have hkat : Hid (∀ j (hj : j < (ks S I).length) (hj2 : j < (lst S I).length), (ks S I)[j] = (lst S I)[j].1) := W_hid (fun j hj hj2 => by simp [ks])
  have H := W_hid h
  obtain ⟨Ls, hLs⟩ : ∃ Ls, lst S I = Ls := ⟨_, rfl⟩
  rw [hLs] at hlen hkl hmem hkat ⊢
  obtain ⟨Ks, hKs⟩ : ∃ Ks, ks S I = Ks := ⟨_, rfl⟩
  rw [hKs] at hN hrise hkl hkat
  obtain ⟨N, hNN⟩ : ∃ N, Ls.length = N := ⟨_, rfl⟩
  rw [hNN] at hlen hkl ⊢
  obtain ⟨X, hmk, hmo⟩ := Own.make_room (t := 37) Try.underlying37 info_stat N (N : Int) rfl (by omega) (by omega)
  replace hmo := W_hid hmo
  replace hNN := W_hid hNN
  clear h hLs hKs
  go_enter Try.func14, Try.ntmps14
  go_wp2_with fail
  refine cA.out.mono ?_
  rintro e w1 ⟨rfl, b1⟩
  have h1 := H.out.keep b1
  have c0 := h1.pm.box.cell (j := 0) rfl
  have hcnt : ∀ ty, (Builtin.len_ #[55] ty #[.map (some mb)]).run Try.prog w1 = .ok (.int .i64 (N : Int)) w1 := fun ty => by have := h1.pm.mp.count hN.out ty; rw [hkl.out] at this; exact this
  have hown0 := W_hid (hmo.out w1 w1.heap.size (Nat.le_refl _))
  have b2 := b1.alloc b1.size X
  obtain ⟨w2, hw2⟩ : ∃ w2, w1.alloc X = w2 := ⟨_, rfl⟩
  rw [hw2] at hown0 b2
  have hs2 : w2.heap.size = w1.heap.size + 1 := by rw [← hw2]; simp
  have h2 := H.out.keep b2
  have d0 := h2.pm.box.cell (j := 0) rfl
  have hbox := (Blk.new w2 55 [.map (some mb)] rfl).cell (j := 0) rfl
  have b3 := b2.alloc b2.size (.cells #[.map (some mb)] 55)
  have cK := W_hid (IS.Keys_any mb w2)
  have cS := W_hid (IS.Sorted_nums w2.heap.size mb M (w2.alloc (.cells #[.map (some mb)] 55)) (by simp) (by have := h2.pm.mp.lt; simp; omega) hbox (h2.pm.mp.alloc _) Ks hN.out hrise.out (by rw [hkl.out]; omega))
  have hs1 := b1.size
  have b1 := W_hid b1
  have b3 := W_hid b3
  replace hs2 := W_hid hs2
  clear cA hbox h1 h2 b2 hmo hN hrise
  go_wp2_with fail
  refine cK.out.mono ?_
  rintro e w3 ⟨rfl, rfl⟩
  go_wp2_with fail
  refine cS.out.mono ?_
  rintro e w4 ⟨v4, rfl, ⟨ao, cap, rfl, hcell⟩, b4⟩
  rw [hkl.out]
  have b5 := W_hid (b3.out.trans (b4.mono b3.out.size))
  have hown4 : Hid (w4.ownsRow w1.heap.size 41 6 (.slice (some ⟨w1.heap.size, 0, none⟩) 0 N) 0 []) := W_hid (Own.below (Own.below hown0.out ((Below.refl _ w2).alloc (Nat.le_refl _) _)) b4)
  have hcell : Hid (∀ i (hi : i < N), ∃ blk off, ao = some ⟨blk, off, none⟩ ∧ w1.heap.size < blk ∧ blk < w4.heap.size ∧ w4.cell? ⟨blk, off + i, none⟩ = some (.int .i64 ((Ls[i]'(by rw [hNN.out]; exact hi)).1 : Int))) := W_hid (fun i hi => by
    obtain ⟨blk, off, h1, h0, h2, h3⟩ := hcell i (by rw [hkl.out]; exact hi)
    rw [hkat.out i _ (by rw [hNN.out]; exact hi)] at h3
    exact ⟨blk, off, h1, by have := hs2.out; simp at h0; omega, h2, h3⟩)
  have hsw := hs1
  have hsz4 : w1.heap.size ≤ w4.heap.size := by have := b4.size; have := hs2.out; simp at *; omega
  clear hown0 b4 b3 cS cK hkat hkl d0 c0
  replace hw2 := W_hid hw2
  go_wp2_with fail
  go_loopw [24, 3] (fun i v wr => ∃ (j : Nat), j ≤ N ∧ i = .int .i64 (j : Int) ∧ Hid (wr.ownsRow w1.heap.size 41 6 v j (stcl (Ls.take j))) ∧ Hid (v.ownBlock = some w1.heap.size ∨ ∃ g, w4.heap.size ≤ g ∧ v.ownBlock = some g) ∧ Hid (Two w1.heap.size w1.heap.size w4 wr)) (fun i _ _ => N - (intOf i).toNat)
  case atStart => exact ⟨0, Nat.zero_le _, rfl, hown4, W_hid (.inl rfl), W_hid (Two.refl _ _ _)⟩
  case round =>
    obtain ⟨j, hj, rfl, hown, hob, hT⟩ := hrel
    have belr := W_hid (b5.out.trans (hT.out.below (B := w.heap.size) (by omega) hsw hsw))
    by_cases hlt : j < N
    · obtain ⟨blk, off, rfl, hb1, hb2, hc⟩ := hcell.out j hlt
      have hm := hmem.out j (by rw [hNN.out]; exact hlt)
      have htake := EM.take_snoc Ls j (by rw [hNN.out]; exact hlt)
      obtain ⟨⟨nj, dj⟩, hx⟩ : ∃ x, Ls[j]'(by rw [hNN.out]; exact hlt) = x := ⟨_, rfl⟩
      rw [hx] at hc hm htake
      simp only at hc hm
      have hc' : wr.cell? ⟨blk, off + j, none⟩ = some (.int .i64 (nj : Int)) := by
        rw [World.cell?_of_block (w := w4) (w' := wr) (a := ⟨blk, off + j, none⟩) (hT.out.block blk hb2 (by omega) (by omega))]
        exact hc
      have cT := stat_any (nj : Int) dj wr (H.out.keep belr.out).pm ⟨by omega, by omega⟩ hm.2.2 (hgood.out.good _ _ hm.2.2).ok
      simp only [stl] at cT
      replace cT := W_hid cT
      replace htake := W_hid htake
      have hsr := hT.out.size
      clear hx hc hm
      go_wp2_with fail
      refine cT.out.mono ?_
      rintro e w5 ⟨rfl, b6⟩
      have hsrc := stl_cells (w5.alloc (.cells #[.int .i64 (nj : Int), .int .i64 dj.kind, .int .i64 dj.links, .int .i64 dj.opens, .int .i64 dj.size, .int .i64 (EM.cnt dj.l : Int)] 41)) (nj : Int) dj w5.heap.size (Blk.new w5 41 (stl (nj : Int) dj) rfl)
      have b7 := b6.alloc b6.size (.cells #[.int .i64 (nj : Int), .int .i64 dj.kind, .int .i64 dj.links, .int .i64 dj.opens, .int .i64 dj.size, .int .i64 (EM.cnt dj.l : Int)] 41)
      have hown7 := W_hid (Own.below hown.out b7)
      have hT7 := W_hid (hT.out.trans (Two.of b7))
      have hs7 := b7.size
      have hsrc := W_hid hsrc
      clear b6 b7 cT hc'
      go_wp2_with (first
        | (at_builtin; refine Own.wpList_app rfl (.tmp 28) (.tmp 32) 37 rfl Try.underlying37 info_stat u3 (.slice (some ⟨w5.heap.size, 0, none⟩) 1 1) rfl rfl hown7.out (by omega) hsrc.out (stl_one _ _) (by unfold maxLen; omega) (by omega) ?_; intro v' w8 ho8 hg8 hb8))
      have hown8 : Hid (w8.ownsRow w1.heap.size 41 6 v' (j + 1) (stcl (Ls.take (j + 1)))) := W_hid (by rw [htake.out, stcl_app, stcl_one]; exact ho8)
      have hob8 : Hid (v'.ownBlock = some w1.heap.size ∨ ∃ g, w4.heap.size ≤ g ∧ v'.ownBlock = some g) := W_hid (by
        rcases hb8 with e | e
        · rw [e]; exact hob.out
        · exact .inr ⟨_, by omega, e⟩)
      have hT8 : Hid (Two w1.heap.size w1.heap.size w4 w8) := W_hid ⟨hg8.os.trans hT7.out.os, hg8.tape.trans hT7.out.tape, hg8.output.trans hT7.out.output, Nat.le_trans hT7.out.size hg8.size, fun k hk h1 h2 => by
        rw [hg8.block k (by omega) (fun e => by
          rcases hob.out with e2 | ⟨g, hg, e2⟩
          · rw [e2] at e; cases e; exact h1 rfl
          · rw [e2] at e; cases e; omega)]
        exact hT7.out.block k hk h1 h2⟩
      clear ho8 hg8 hb8 hown7 hT7 hsrc
      go_wp2_with fail
      go_roundw
      case rel => exact ⟨j + 1, by omega, by go_num, hown8, hob8, hT8⟩
      case measure => simp [intOf]; omega
    · obtain rfl : j = N := by omega
      have hfin := hown.out
      rw [List.take_of_length_le (Nat.le_of_eq hNN.out)] at hfin
      have hfin := W_hid (Own.low (base' := w.heap.size) hsw hfin)
      go_wp2_with fail
      go_ret
      exact ⟨_, rfl, hfin.out, belr.out⟩
end
end IN
end Go.Proofs.Ytieneehpijilpaa
