/- Contracts of package inode's Make, of stores that are there. -/
import Derived.Test.YtieneehpijilpaaInoStat2
namespace Go.Proofs.Ytieneehpijilpaa
open Go.ChangeShapes Go.WideShapes Go.ChangeAt Go.RowKit Go.Maps
set_option linter.unusedVariables false
set_option linter.unusedSimpArgs false
namespace IN

section
variable {base sg mb I L B k : Nat} {M : Int → Option Nat} {S : Int → Option Nd}
/-- What Make's checks say. -/
def mkR (I : Nat) (S : Int → Option Nd) (kd : Int) : Int := if kd = 1 ∨ kd = 2 then (if (lst S I).length < I then 0 else 21) else 2
set_option maxRecDepth 100000 in
theorem ask_make (kd : Int) (w : World) (h : PS base w sg mb M I L B k S) :
    Calls Try.prog 35 #[.int .i64 kd, .slice (some ⟨w.heap.size, 0, none⟩) 3 3] (w.alloc (.cells #[.func (.func 36) #[.pointer (some ⟨sg, 0, none⟩)] #[], .func (.func 40) #[] #[], .func (.func 41) #[.pointer (some ⟨sg, 0, none⟩)] #[]] 45)) fun e w' => e = .returned (.int .i64 (mkR I S kd)) ∧ Below w.heap.size w w' := by
  have hal := (Below.refl w.heap.size w).alloc (Nat.le_refl _) (.cells #[.func (.func 36) #[.pointer (some ⟨sg, 0, none⟩)] #[], .func (.func 40) #[] #[], .func (.func 41) #[.pointer (some ⟨sg, 0, none⟩)] #[]] 45)
  have hb : ∀ W, Below _ _ W → Below w.heap.size w W := fun W hW => hal.trans (hW.mono hal.size)
  refine (first_make (.pointer (some ⟨sg, 0, none⟩)) _ _ _ 0 (if kd = 1 ∨ kd = 2 then 0 else 2) (if ((ks S I).length : Int) < (I : Int) then 0 else 21) kd w.heap.size _ (chk_blk w [.func (.func 36) #[.pointer (some ⟨sg, 0, none⟩)] #[], .func (.func 40) #[] #[], .func (.func 41) #[.pointer (some ⟨sg, 0, none⟩)] #[]] _ rfl)
    (fun w => by kernel_rfl) (fun w => by kernel_rfl) (fun w => by kernel_rfl) (fun W hW => made_some _ W (h.keep (hb W hW)).pm) (fun W _ hW => isKind_any kd W) (fun W _ _ hW => room_any _ _ W (h.keep (hb W hW)).pm h.nums)).mono ?_
  rintro e w' ⟨rfl, hb'⟩
  refine ⟨?_, hb w' hb'⟩
  have hlen : ((ks S I).length : Int) < (I : Int) ↔ (lst S I).length < I := by rw [ks_len]; omega
  unfold mkR
  by_cases h1 : kd = 1 ∨ kd = 2
  · by_cases h2 : (lst S I).length < I
    · simp [fst, h1, h2, hlen]
    · simp [fst, h1, h2, hlen]
  · simp [fst, h1]

set_option maxRecDepth 100000 in
set_option maxHeartbeats 4000000 in
theorem Make_no (kd : Int) (w : World) (h : PS base w sg mb M I L B k S) (r : Int) (hr : mkR I S kd = r) (hr0 : r ≠ 0) :
    Calls Try.prog 16 #[.pointer (some ⟨sg, 0, none⟩), .int .i64 kd] w fun e w' => e = .returned (.tuple #[.int .i64 0, .int .i64 r]) ∧ Below w.heap.size w w' := by
  have hmf : ∀ (fn : Fn) (first cap : Array Value) (w : World), (Instr.makeFunc fn first cap).run Try.prog w = .ok (.func fn first cap) w := fun _ _ _ _ => rfl
  have cA := ask_make kd w h
  rw [hr] at cA
  replace cA := W_hid cA
  clear h hr
  go_enter Try.func16, Try.ntmps16
  go_wp2_with fail
  refine cA.out.mono ?_
  rintro e w1 ⟨rfl, b1⟩
  go_wp2_with fail
  go_ret2
  exact ⟨rfl, b1⟩

def newNd (kd : Int) : Nd := { kind := kd, links := 1, opens := 0, size := 0, l := [] }
/-- A store into the map of inodes. -/
theorem wpList_update_n {w : World} {ops : Array Oper} {rest : List Oper} {o : Oper} {a : Act} {Q : Exit → Act → World → Prop} (hg : o.guard = none) (m x v : Operand) (hop : o.op = Op.mapUpdate 55 m x v)
    (b : Nat) (f : Int) (g : Nat) (M : Int → Option Nat) (hm : a.eval m = .map (some b)) (hx : a.eval x = .int .i64 f) (hv : a.eval v = .pointer (some ⟨g, 0, none⟩)) (h : IS.MB w b M) (hf : 0 ≤ f ∧ f < 65536)
    (hK : ∀ w', IS.MB w' b (IS.upd M f (some g)) → w.grownBy w' (some b) → w'.heap.size = w.heap.size → wpList Try.prog ops Q rest (a.put o.dst undef) w') : wpList Try.prog ops Q (o :: rest) a w := by
  refine wpList_plain hg fun K' hK' => ?_
  obtain ⟨w', hrun, r1, r2, r3⟩ := h.put f g hf
  unfold Oper.wp
  simp [execOp, hop, hm, hx, hv, hrun, Result.andThen]
  exact hK' _ _ (hK w' r1 r2 r3)

set_option maxRecDepth 100000 in
set_option maxHeartbeats 4000000 in
theorem Make_yes (kd : Int) (n : Nat) (w : World) (h : PS base w sg mb M I L B k S) (hr : mkR I S kd = 0) (hlow : Low S n) (hnI : n ≤ I) (hL : 1 ≤ L) :
    Calls Try.prog 16 #[.pointer (some ⟨sg, 0, none⟩), .int .i64 kd] w fun e w' => e = .returned (.tuple #[.int .i64 (n : Int), .int .i64 0]) ∧ (∃ M', PS base w' sg mb M' I L B k (upd S (n : Int) (some (newNd kd)))) ∧ Keeps base PT w w' := by
  have hmf : ∀ (fn : Fn) (first cap : Array Value) (w : World), (Instr.makeFunc fn first cap).run Try.prog w = .ok (.func fn first cap) w := fun _ _ _ _ => rfl
  have cA := ask_make kd w h
  rw [hr] at cA
  replace cA := W_hid cA
  have hkd : kd = 1 ∨ kd = 2 := by
    unfold mkR at hr
    by_cases e : kd = 1 ∨ kd = 2
    · exact e
    · rw [if_neg e] at hr; cases hr
  have hI := h.lim.1
  have H := W_hid h
  have hn1 := hlow.1
  have hlow := W_hid hlow
  have hkd := W_hid hkd
  clear h hr
  go_enter Try.func16, Try.ntmps16
  go_wp2_with fail
  refine cA.out.mono ?_
  rintro e w1 ⟨rfl, b1⟩
  have h1 := H.out.keep b1
  have c0 := h1.pm.box.cell (j := 0) rfl
  have hlook := W_hid (fun f hf => h1.pm.mp.look f hf)
  have hsome : Hid (∀ m : Nat, 1 ≤ m → m < n → ∃ g, M (m : Int) = some g) := W_hid (fun m a b => by
    have := hlow.out.2.2 m a b
    have hd := h1.pm.dom (m : Int)
    cases e : M (m : Int) with
    | none => exact absurd (hd.1 e) this
    | some g => exact ⟨g, rfl⟩)
  have hnone : Hid (M (n : Int) = none) := W_hid ((h1.pm.dom _).2 hlow.out.2.1)
  have hlw := H.out.low
  have b1' := W_hid b1
  have h1 := W_hid h1
  clear b1 cA
  go_wp2_with fail
  go_loopw [7] (fun v wr => ∃ m : Nat, v = .int .i64 (m : Int) ∧ 1 ≤ m ∧ m ≤ n ∧ wr = w1) (fun v _ => n - (intOf v).toNat)
  case atStart => exact ⟨1, rfl, Nat.le_refl _, hn1, rfl⟩
  case round =>
    obtain ⟨m, rfl, hm1, hmn, rfl⟩ := hrel
    have hlk := hlook.out (m : Int) (IS.i64_nat (by omega))
    rcases Nat.lt_or_ge m n with hlt | hge
    · obtain ⟨g, hg⟩ := hsome.out m hm1 hlt
      rw [hg] at hlk
      simp only [IS.ptr] at hlk
      clear hg
      go_wp2_with fail
      go_roundw
      case rel => exact ⟨m + 1, by go_num, by omega, by omega, by first | trivial | rfl⟩
      case measure => simp [intOf]; omega
    · obtain rfl : m = n := by omega
      rw [hnone.out] at hlk
      simp only [IS.ptr] at hlk
      have hmb := W_hid (h1.out.pm.mp.alloc (.cells #[.int .i64 kd, .int .i64 1, .int .i64 0, .int .i64 0, .slice none 0 0] 74))
      have hbk := W_hid (h1.out.pm.alloc (.cells #[.int .i64 kd, .int .i64 1, .int .i64 0, .int .i64 0, .slice none 0 0] 74))
      have hnw := W_hid (Blk.new wr 74 (ncl (newNd kd) (.slice none 0 0)) rfl)
      have hgsz : ∀ x g, M x = some g → g < wr.heap.size := fun x g hx => h1.out.pm.glt hx
      have hgsz := W_hid hgsz
      go_wp2_with (first | (refine wpList_update_n rfl _ _ _ rfl mb (m : Int) wr.heap.size M rfl rfl rfl hmb.out (by omega) ?_; intro w2 hm2 hg2 hs2))
      have hu : ∀ x, IS.upd M (m : Int) (some wr.heap.size) x = none ↔ upd S (m : Int) (some (newNd kd)) x = none := fun x => by
        by_cases e : x = (m : Int)
        · subst e; rw [upd_at]; simp [IS.upd]
        · rw [upd_ne e]; unfold IS.upd; rw [if_neg e]; exact h1.out.pm.dom x
      obtain ⟨q1, q2⟩ := hbk.out.turn hm2 hg2 (upd S (m : Int) (some (newNd kd))) hu (fun x g' d' hM' hS' => by
        by_cases e : x = (m : Int)
        · subst e
          rw [upd_at] at hS'
          cases hS'
          unfold IS.upd at hM'
          rw [if_pos rfl] at hM'
          cases hM'
          exact .inr ⟨_, ⟨hnw.out, XE.nil _⟩, by have := b1'.out.size; omega⟩
        · rw [upd_ne e] at hS'
          unfold IS.upd at hM'
          rw [if_neg e] at hM'
          exact .inl ⟨hM', hS'⟩) (fun x y g' hA hB => by
        unfold IS.upd at hA hB
        split at hA
        · split at hB
          · omega
          · cases hA; have := hgsz.out _ _ hB; omega
        · split at hB
          · cases hB; have := hgsz.out _ _ hA; omega
          · exact h1.out.pm.inj x y g' hA hB)
      have ht := tot_upd S m I (some (newNd kd)) hm1 hnI
      rw [hlow.out.2.1] at ht
      simp only [cntOf, newNd, EM.cnt_nil] at ht
      have ht : tot (upd S (m : Int) (some (newNd kd))) I = tot S I := by simp only [newNd]; omega
      have q1 := W_hid q1
      have q2 := W_hid ((Keeps.new (T := PT) b1'.out hlw).trans (((Keeps.refl base PT wr).alloc (Nat.le_trans hlw b1'.out.size) _).trans q2))
      have ht := W_hid ht
      clear hm2 hg2 hu hs2
      go_wp2_with fail
      go_ret2
      have hf1 := h1.out.fn
      refine ⟨rfl, ⟨IS.upd M (m : Int) (some wr.heap.size), ?_, hf1.turn hm1 hnI (fun d hd => by
        cases hd
        exact ⟨hkd.out, by simp [newNd]; omega, by simp [newNd], by simp [newNd], by simp [newNd], rfl, by simp [newNd, ends], fun _ => ⟨rfl, rfl⟩⟩) (by have := hf1.tot; simp [cntOf, newNd, EM.cnt_nil]; omega), h1.out.lim⟩, q2.out⟩
      rw [ht.out]
      exact q1.out
end
end IN
end Go.Proofs.Ytieneehpijilpaa
