/- What the laws need besides: that a slice of what came in is laid out; the document's Right of capacities that may not be, its All. -/
import Derived.Test.YtmnmheocmcmpmaaGreatZB10
import Derived.Deep.MidRow
import Derived.Deep.OwnRows
import Derived.Laws.OwnMore
import Derived.OpenShut
import Derived.WalkSmall
namespace Go.Proofs.YtmnmheocmcmpmaaGreat
open Go.ChangeShapes Go.WideShapes Go.ChangeAt Go.RowKit
set_option linter.unusedVariables false
set_option linter.unusedSimpArgs false
theorem laidOut : laidOutB Tryz.prog = true := by kernel_rfl
section
variable {w w' : World} {g : Nat} {e : TypeId} {l : List Value}
end
section
variable {w w' w2 : World} {g b : Nat}
end
end Go.Proofs.YtmnmheocmcmpmaaGreat
namespace Go.Proofs.YtmnmheocmcmpmaaGreat
open Go.ChangeShapes Go.WideShapes Go.ChangeAt Go.RowKit
set_option linter.unusedVariables false
set_option linter.unusedSimpArgs false
namespace IN
section
variable {base : Nat} {rg : Nat} {I B L k : Nat} {S : Int → Option Nd} {z3 z4 z5 z6 : Int} {v : Value} {q : List RE}
theorem range_six {w : World} {g o : Nat} {a b c d e f : Int} (h0 : w.cell? ⟨g, o, none⟩ = some (.int .i64 a)) (h1 : w.cell? ⟨g, o + 1, none⟩ = some (.int .i64 b)) (h2 : w.cell? ⟨g, o + 2, none⟩ = some (.int .i64 c)) (h3 : w.cell? ⟨g, o + 3, none⟩ = some (.int .i64 d)) (h4 : w.cell? ⟨g, o + 4, none⟩ = some (.int .i64 e)) (h5 : w.cell? ⟨g, o + 5, none⟩ = some (.int .i64 f)) : w.rangeAt g o [.int .i64 a, .int .i64 b, .int .i64 c, .int .i64 d, .int .i64 e, .int .i64 f] := by
  intro j v hj
  match j, hj with
  | 0, hj => cases hj; exact h0
  | 1, hj => cases hj; exact h1
  | 2, hj => cases hj; exact h2
  | 3, hj => cases hj; exact h3
  | 4, hj => cases hj; exact h4
  | 5, hj => cases hj; exact h5
set_option maxRecDepth 100000 in
set_option maxHeartbeats 8000000 in
theorem rRight_no (a b c d e f g : Int) (w : World) (hr : ¬ Right a b c) :
    Calls Tryz.prog 15 #[cap7 a b c d e f g] w fun r w' => r = .returned (.bool false) ∧ Below w.heap.size w w' := by
  unfold cap7
  have hr : a < 1 ∨ 1 ≤ a ∧ (4096 < a ∨ a ≤ 4096 ∧ (b < 0 ∨ 0 ≤ b ∧ (16777216 < b ∨ b ≤ 16777216 ∧ (c < 1 ∨ 1 ≤ c ∧ 32768 < c)))) := by unfold Right at hr; omega
  go_enter Tryz.func15, Tryz.ntmps15
  rcases hr with hr | ⟨q1, hr | ⟨q2, hr | ⟨q3, hr | ⟨q4, hr | ⟨q5, hr⟩⟩⟩⟩⟩ <;>
  · go_wp2_with fail
    go_ret
    refine ⟨?_, (Below.refl _ w).alloc (Nat.le_refl _) _⟩
    first
      | rfl
      | (simp; omega)
end
end IN
end Go.Proofs.YtmnmheocmcmpmaaGreat
namespace Go.Proofs.YtmnmheocmcmpmaaGreat
open Go.ChangeShapes Go.WideShapes Go.ChangeAt Go.RowKit
set_option linter.unusedVariables false
set_option linter.unusedSimpArgs false
namespace IN
section
variable {base : Nat} {rg : Nat} {I B L k : Nat} {S : Int → Option Nd} {z3 z4 z5 z6 : Int} {v : Value} {q : List RE}
set_option maxRecDepth 100000 in
set_option maxHeartbeats 8000000 in
theorem rAll_any (w : World) (hf : Fine I L B k S) (hI : I ≤ 4096) (h : RS base w rg I B L (lst S I)) :
    Calls Tryz.prog 22 #[.pointer (some ⟨rg, 0, none⟩)] w fun e w' => ∃ v, e = .returned v ∧ w'.ownsRow w.heap.size 49 6 v (lst S I).length (stcl (lst S I)) ∧ Below w.heap.size w w' := by
  obtain ⟨z3, z4, z5, z6, v, q, hM, hF⟩ := h
  have hlen := hF.len
  have hls := lst_len S I
  obtain ⟨ao, cap, hv⟩ := Own.form hM.row
  subst hv
  have hE := W_hid (fun i (hi : i < q.length) => hM.opened hi)
  have hEF := W_hid (fun i (hi : i < q.length) (hl : i < (lst S I).length) => hF.at_ i hi hl)
  have hbox := hM.box
  obtain ⟨Ls, hLs⟩ : ∃ Ls, lst S I = Ls := ⟨_, rfl⟩
  rw [hLs] at hlen hls hEF ⊢
  obtain ⟨N, hN⟩ : ∃ N, Ls.length = N := ⟨_, rfl⟩
  rw [hN] at hlen hls ⊢
  have c7 := hbox.cell (j := 7) rfl
  rw [hlen] at c7
  have hrl := hbox.lt
  replace hN := W_hid hN
  replace hlen := W_hid hlen
  replace hbox := W_hid hbox
  clear hM hF hLs
  go_enter Tryz.func22, Tryz.ntmps22
  go_wp2_with fail
  go_loopw [3, 4] (fun v i wr => ∃ (j : Nat), j ≤ N ∧ i = .int .i64 (j : Int) ∧ Hid (wr.ownsRow w.heap.size 49 6 v j (stcl (Ls.take j))) ∧ Hid (Below w.heap.size w wr)) (fun _ i _ => N - (intOf i).toNat)
  case atStart => exact ⟨0, Nat.zero_le _, rfl, W_hid (World.ownsRow_nil _ _ _ _), W_hid (Below.refl _ _)⟩
  case round =>
    obtain ⟨j, hj, rfl, hown, hbel⟩ := hrel
    have c7' := cellkept hbel.out c7
    by_cases hlt : j < N
    · have hjq : j < q.length := by rw [hlen.out]; exact hlt
      have hjl : j < Ls.length := by rw [hN.out]; exact hlt
      obtain ⟨g, N', cap', hv, hN', hpN, -, -, -, -, hgl, -, -, -, -, -, -, -, x0, x1, x2, x3, x4, x5, -⟩ := hE.out j hjq
      have hef := hEF.out j hjq hjl
      rw [hlen.out] at hv
      simp only [Value.slice.injEq] at hv
      obtain ⟨rfl, rfl, rfl⟩ := hv
      obtain ⟨⟨nj, dj⟩, hx⟩ : ∃ x, Ls[j] = x := ⟨_, rfl⟩
      have htake := W_hid (EM.take_snoc Ls j hjl)
      rw [hx] at htake hef
      rw [hef.n] at x0
      rw [hef.kd] at x1
      rw [hef.lk] at x2
      rw [hef.op] at x3
      rw [hef.sz] at x4
      rw [hef.st] at x5
      simp only at x0 x1 x2 x3 x4 x5
      have hR := W_hid (range_six (cellkept hbel.out x0) (cellkept hbel.out x1) (cellkept hbel.out x2) (cellkept hbel.out x3) (cellkept hbel.out x4) (cellkept hbel.out x5))
      have hsrc := W_hid (stl_cells (wr.alloc (.cells #[.int .i64 (nj : Int), .int .i64 dj.kind, .int .i64 dj.links, .int .i64 dj.opens, .int .i64 dj.size, .int .i64 (EM.cnt dj.l : Int)] 49)) (nj : Int) dj wr.heap.size (Blk.new wr 49 (stl (nj : Int) dj) rfl))
      have hb7 := W_hid (hbel.out.alloc hbel.out.size (.cells #[.int .i64 (nj : Int), .int .i64 dj.kind, .int .i64 dj.links, .int .i64 dj.opens, .int .i64 dj.size, .int .i64 (EM.cnt dj.l : Int)] 49))
      have hown7 := W_hid (Own.below hown.out ((Below.refl wr.heap.size wr).alloc (Nat.le_refl _) (.cells #[.int .i64 (nj : Int), .int .i64 dj.kind, .int .i64 dj.links, .int .i64 dj.opens, .int .i64 dj.size, .int .i64 (EM.cnt dj.l : Int)] 49)))
      obtain ⟨ao3, c3, hv3⟩ := Own.form hown.out
      clear hN' hx hef x0 x1 x2 x3 x4 x5 hjq hjl
      subst hv3
      go_wp2_with (first
        | (refine wpList_load_mid rfl 49 (.tmp 21) rfl g (j * 7) rfl [.int .i64 (nj : Int), .int .i64 dj.kind, .int .i64 dj.links, .int .i64 dj.opens, .int .i64 dj.size, .int .i64 (EM.cnt dj.l : Int)] _ hR.out Tryz.underlying49 rfl (by kernel_rfl) ?_)
        | (at_builtin; refine Own.wpList_app rfl (.tmp 14) (.tmp 23) 42 rfl Tryz.underlying42 info_stat (.slice ao3 j c3) (.slice (some ⟨wr.heap.size, 0, none⟩) 1 1) rfl rfl hown7.out hb7.out.size hsrc.out (stl_one _ _) (by unfold maxLen; omega) (by omega) ?_; intro v' w8 ho8 hg8 hob8; have hb8 := W_hid (hb7.out.grown hg8 hb7.out.size (fun k h => Own.ge hown7.out k h)); have ho8 := W_hid ho8; clear hg8 hob8))
      have hown8 : Hid (w8.ownsRow w.heap.size 49 6 v' (j + 1) (stcl (Ls.take (j + 1)))) := W_hid (by rw [htake.out, stcl_app, stcl_one]; exact ho8.out)
      go_roundw
      case rel => exact ⟨j + 1, by omega, by go_num, hown8, hb8⟩
      case measure => simp [intOf]; omega
    · obtain rfl : j = N := by omega
      have hfin := hown.out
      rw [List.take_of_length_le (Nat.le_of_eq hN.out)] at hfin
      have hfin := W_hid hfin
      go_wp2_with fail
      go_ret
      exact ⟨_, rfl, hfin.out, hbel.out⟩
end
end IN
end Go.Proofs.YtmnmheocmcmpmaaGreat
