/- The document's runs. -/
import Derived.Test.YtmikgkelmdgckaaRefSch3
import Derived.Test.YtmikgkelmdgckaaSchRun
import Derived.Test.YtmikgkelmdgckaaHeldTil
namespace Go.Proofs.Ytmikgkelmdgckaa
open Go.ChangeShapes Go.WideShapes Go.ChangeAt Go.RowKit
set_option linter.unusedVariables false
set_option linter.unusedSimpArgs false
set_option maxRecDepth 100000
namespace SD
open IN (Keeps lt_of_some)
open FM (one half dk dk_dec)
attribute [local go_sem] run_store_float
theorem rdecay_one (b x : Nat) (hb : b ≤ one) (hx : x ≤ one) (w : World) : Calls Try.prog 74 #[.float .f64 b, .float .f64 x, .int .i64 1] w fun e w' => e = .returned (.tuple #[.float .f64 (dk b x), .int .i64 0]) ∧ Below w.heap.size w w' := by
  have h1 : one < 18446744073709551616 := by decide
  refine (rdecay_yes b x 1 (by omega) (by omega) w).mono ?_
  rintro e w' ⟨r, rfl, hr, hv, hB⟩
  rw [dk_dec hb hx] at hv
  have : r = dk b x := by
    unfold val at hv
    split at hv
    · cases hv
    · exact Option.some.inj hv
  exact ⟨by rw [this], hB⟩
section
variable {base : Nat} {w : World} {rb : Nat} {vp vl : Value} {P : List Pr} {L : List Int}
set_option maxRecDepth 100000 in
set_option maxHeartbeats 8000000 in
theorem rruns_any (h : DM base w rb vp vl P L) (hlen : P.length ≤ 60000) (hload : ∀ x ∈ P, x.load ≤ one) (p : Int) :
    Calls Try.prog 58 #[ptr rb, .int .i64 p] w fun e w' => e = .returned (.tuple #[]) ∧ DM base w' rb vp vl (runP P p) L ∧ Keeps base (fun k _ => DX rb vp vl k) w w' := by
  obtain ⟨ao, cap, hv⟩ := Own.form h.row
  obtain ⟨n, hn⟩ : ∃ n, P.length = n := ⟨_, rfl⟩
  rw [hn] at hv hlen
  have hgen : Hid (∀ wr k, DM base wr rb vp vl (runTo P p k) L → wr.cell? ⟨rb, 0, none⟩ = some (.slice ao n cap)) := W_hid fun wr k hM => by rw [← hv]; exact hM.box.cell rfl
  have hst : Hid (∀ wr k, DM base wr rb vp vl (runTo P p k) L → (hk : k < P.length) → ∃ g, ao = some ⟨g, 0, none⟩ ∧ n ≤ cap ∧ cap ≤ 9223372036854775807 ∧ wr.cell? ⟨g, k * 4, none⟩ = some (.int .i64 P[k].pid) ∧ wr.cell? ⟨g, k * 4 + 3, none⟩ = some (.float .f64 P[k].load) ∧
      ∀ w2, Below wr.heap.size wr w2 → w2.cell? ⟨rb, 0, none⟩ = some (.slice ao n cap) ∧ w2.cell? ⟨g, k * 4 + 3, none⟩ = some (.float .f64 P[k].load) ∧ (∀ j, w2.frozen? ⟨g, j, none⟩ = false) ∧ DM base (w2.setCell ⟨g, k * 4 + 3, none⟩ (.float .f64 (onP p P[k]).load)) rb vp vl (runTo P p (k + 1)) L ∧ Keeps base (fun k _ => DX rb vp vl k) wr (w2.setCell ⟨g, k * 4 + 3, none⟩ (.float .f64 (onP p P[k]).load))) := W_hid fun wr k hM hk => by
    have hl : k < (runTo P p k).length := by rw [runTo_len]; exact hk
    have he := runTo_get P p hk
    obtain ⟨g, n', cap', e, -, -, h3, h4, -, -, -, -, -, -, -, e0, -, -, e3⟩ := hM.opened hl
    rw [he] at e0 e3
    rw [hv] at e
    simp only [Value.slice.injEq] at e
    obtain ⟨rfl, rfl, rfl⟩ := e
    refine ⟨g, rfl, h3, h4, e0, e3, fun w2 hb => ?_⟩
    have hM2 := hM.keep hb
    obtain ⟨g2, n2, cap2, e2, hn2, -, -, -, -, -, -, -, hfz, -, y1, -, -, -, y3⟩ := hM2.opened hl
    rw [hv] at e2
    simp only [Value.slice.injEq, Option.some.injEq, Addr.mk.injEq, and_true] at e2
    obtain ⟨rfl, rfl, rfl⟩ := e2
    rw [he] at y3
    refine ⟨y1, y3, hfz, ?_⟩
    rw [hv] at hM2
    obtain ⟨q1, q2⟩ := hM2.set hn2 hl 3 (.float .f64 (onP p P[k]).load) (by omega) (onP p P[k]) (by rw [he]; rfl)
    rw [runTo_set P p hk] at q1
    rw [hv]
    exact ⟨q1, (Keeps.new hb hM.base_le).trans q2⟩
  have hld : Hid (∀ k (hk : k < P.length), P[k].load ≤ one) := W_hid fun k hk => hload _ (List.getElem_mem hk)
  have h0 : Hid (DM base w rb vp vl (runTo P p 0) L) := W_hid (by rw [runTo_zero]; exact h)
  have hend : Hid (∀ wr, DM base wr rb vp vl (runTo P p n) L → DM base wr rb vp vl (runP P p) L) := W_hid fun wr hM => by rw [← hn, runTo_all] at hM; exact hM
  replace hn := W_hid hn
  have hK0 := W_hid (Keeps.refl base (fun k _ => DX rb vp vl k) w)
  clear h hv
  go_enter Try.func58, Try.ntmps58
  go_wp2_with fail
  go_loopw [4, 5] (fun i _ wr => ∃ k : Nat, k ≤ n ∧ i = .int .i64 (k : Int) ∧ Hid (DM base wr rb vp vl (runTo P p k) L) ∧ Hid (Keeps base (fun k _ => DX rb vp vl k) w wr)) (fun i _ _ => n - (intOf i).toNat)
  case atStart => exact ⟨0, Nat.zero_le _, rfl, h0, hK0⟩
  case round =>
    obtain ⟨k, hk, rfl, hM, hK⟩ := hrel
    have c0 := hgen.out _ _ hM.out
    by_cases hlt : k < n
    · have hkl : k < P.length := by rw [hn.out]; exact hlt
      obtain ⟨g, rfl, q1, q2, e0, e3, hset⟩ := hst.out _ _ hM.out hkl
      have hlo := hld.out k hkl
      by_cases hp : P[k].pid = p
      · have hon : (onP p P[k]).load = dk P[k].load one := by unfold onP; rw [if_pos hp]
        rw [hon] at hset
        obtain ⟨b, hb⟩ : ∃ b, P[k].load = b := ⟨_, rfl⟩
        rw [hb] at e3 hset hlo
        rw [hp] at e0
        have cD := W_hid (fun w => rdecay_one b one hlo (Nat.le_refl _) w)
        obtain ⟨r, hr⟩ : ∃ r, dk b one = r := ⟨_, rfl⟩
        rw [hr] at cD hset
        replace hset := W_hid hset
        replace hlo := W_hid hlo
        unfold one at cD
        clear hkl hon hp hb hr
        go_wp2_with fail
        refine UpTil.region (S := (fun w' => w'.cell? ⟨rb, 0, none⟩ = some (.slice (some ⟨g, 0, none⟩) n cap) ∧ w'.cell? ⟨g, k * 4 + 3, none⟩ = some (.float .f64 b))) (m := 20) (by kernel_rfl) ⟨c0, e3⟩ (fun hHeld => ?_)
        refine UpTil.take (i := 0) (v := .pointer (some ⟨rb, 0, none⟩)) rfl (by kernel_rfl) (by kernel_rfl) (by kernel_rfl) (by kernel_rfl) (by kernel_rfl) (fun _ _ _ h => h) (Or.inl ⟨by rfl, fun w0 ⟨s1, s2⟩ => ?_⟩) hHeld ?_
        · go_simp
        try simp only [Act.put, List.setIfInBounds_toArray, List.set_cons_zero, List.set_cons_succ, List.getElem_toArray, List.getElem_cons_zero, List.getElem_cons_succ]
        refine UpTil.take (i := 1) (v := .pointer (some ⟨rb, 0, none⟩)) rfl (by kernel_rfl) (by kernel_rfl) (by kernel_rfl) (by kernel_rfl) (by kernel_rfl) (fun _ _ _ h => h) (Or.inl ⟨by rfl, fun w0 ⟨s1, s2⟩ => ?_⟩) hHeld ?_
        · go_simp
        try simp only [Act.put, List.setIfInBounds_toArray, List.set_cons_zero, List.set_cons_succ, List.getElem_toArray, List.getElem_cons_zero, List.getElem_cons_succ]
        refine UpTil.take (i := 2) (v := .pointer (some ⟨rb, 0, none⟩)) rfl (by kernel_rfl) (by kernel_rfl) (by kernel_rfl) (by kernel_rfl) (by kernel_rfl) (fun _ _ _ h => h) (Or.inl ⟨by rfl, fun w0 ⟨s1, s2⟩ => ?_⟩) hHeld ?_
        · go_simp
        try simp only [Act.put, List.setIfInBounds_toArray, List.set_cons_zero, List.set_cons_succ, List.getElem_toArray, List.getElem_cons_zero, List.getElem_cons_succ]
        refine UpTil.take (i := 3) (v := .slice (some ⟨g, 0, none⟩) n cap) rfl (by kernel_rfl) (by kernel_rfl) (by kernel_rfl) (by kernel_rfl) (by kernel_rfl) (fun _ _ _ h => h) (Or.inl ⟨by rfl, fun w0 ⟨s1, s2⟩ => ?_⟩) hHeld ?_
        · go_simp
        try simp only [Act.put, List.setIfInBounds_toArray, List.set_cons_zero, List.set_cons_succ, List.getElem_toArray, List.getElem_cons_zero, List.getElem_cons_succ]
        refine UpTil.take (i := 4) (v := .int .i64 (k : Int)) rfl (by kernel_rfl) (by kernel_rfl) (by kernel_rfl) (by kernel_rfl) (by kernel_rfl) (fun _ _ _ h => h) (Or.inl ⟨by rfl, fun w0 ⟨s1, s2⟩ => ?_⟩) hHeld ?_
        · go_simp
        try simp only [Act.put, List.setIfInBounds_toArray, List.set_cons_zero, List.set_cons_succ, List.getElem_toArray, List.getElem_cons_zero, List.getElem_cons_succ]
        refine UpTil.take (i := 5) (v := .pointer (some ⟨rb, 0, none⟩)) rfl (by kernel_rfl) (by kernel_rfl) (by kernel_rfl) (by kernel_rfl) (by kernel_rfl) (fun _ _ _ h => h) (Or.inl ⟨by rfl, fun w0 ⟨s1, s2⟩ => ?_⟩) hHeld ?_
        · go_simp
        try simp only [Act.put, List.setIfInBounds_toArray, List.set_cons_zero, List.set_cons_succ, List.getElem_toArray, List.getElem_cons_zero, List.getElem_cons_succ]
        refine UpTil.take (i := 6) (v := .pointer (some ⟨rb, 0, none⟩)) rfl (by kernel_rfl) (by kernel_rfl) (by kernel_rfl) (by kernel_rfl) (by kernel_rfl) (fun _ _ _ h => h) (Or.inl ⟨by rfl, fun w0 ⟨s1, s2⟩ => ?_⟩) hHeld ?_
        · go_simp
        try simp only [Act.put, List.setIfInBounds_toArray, List.set_cons_zero, List.set_cons_succ, List.getElem_toArray, List.getElem_cons_zero, List.getElem_cons_succ]
        refine UpTil.take (i := 7) (v := .pointer (some ⟨rb, 0, none⟩)) rfl (by kernel_rfl) (by kernel_rfl) (by kernel_rfl) (by kernel_rfl) (by kernel_rfl) (fun _ _ _ h => h) (Or.inl ⟨by rfl, fun w0 ⟨s1, s2⟩ => ?_⟩) hHeld ?_
        · go_simp
        try simp only [Act.put, List.setIfInBounds_toArray, List.set_cons_zero, List.set_cons_succ, List.getElem_toArray, List.getElem_cons_zero, List.getElem_cons_succ]
        refine UpTil.take (i := 8) (v := .slice (some ⟨g, 0, none⟩) n cap) rfl (by kernel_rfl) (by kernel_rfl) (by kernel_rfl) (by kernel_rfl) (by kernel_rfl) (fun _ _ _ h => h) (Or.inl ⟨by rfl, fun w0 ⟨s1, s2⟩ => ?_⟩) hHeld ?_
        · go_simp
        try simp only [Act.put, List.setIfInBounds_toArray, List.set_cons_zero, List.set_cons_succ, List.getElem_toArray, List.getElem_cons_zero, List.getElem_cons_succ]
        refine UpTil.take (i := 9) (v := .int .i64 (k : Int)) rfl (by kernel_rfl) (by kernel_rfl) (by kernel_rfl) (by kernel_rfl) (by kernel_rfl) (fun _ _ _ h => h) (Or.inl ⟨by rfl, fun w0 ⟨s1, s2⟩ => ?_⟩) hHeld ?_
        · go_simp
        try simp only [Act.put, List.setIfInBounds_toArray, List.set_cons_zero, List.set_cons_succ, List.getElem_toArray, List.getElem_cons_zero, List.getElem_cons_succ]
        refine UpTil.take (i := 10) (v := .pointer (some ⟨g, k * 4, none⟩)) rfl (by kernel_rfl) (by kernel_rfl) (by kernel_rfl) (by kernel_rfl) (by kernel_rfl) (fun _ _ _ h => h) (Or.inl ⟨by rfl, fun w0 ⟨s1, s2⟩ => ?_⟩) hHeld ?_
        · go_simp
        try simp only [Act.put, List.setIfInBounds_toArray, List.set_cons_zero, List.set_cons_succ, List.getElem_toArray, List.getElem_cons_zero, List.getElem_cons_succ]
        refine UpTil.take (i := 11) (v := .pointer (some ⟨g, k * 4 + 3, none⟩)) rfl (by kernel_rfl) (by kernel_rfl) (by kernel_rfl) (by kernel_rfl) (by kernel_rfl) (fun _ _ _ h => h) (Or.inl ⟨by rfl, fun w0 ⟨s1, s2⟩ => ?_⟩) hHeld ?_
        · go_simp
        try simp only [Act.put, List.setIfInBounds_toArray, List.set_cons_zero, List.set_cons_succ, List.getElem_toArray, List.getElem_cons_zero, List.getElem_cons_succ]
        refine UpTil.take (i := 12) (v := .float .f64 b) rfl (by kernel_rfl) (by kernel_rfl) (by kernel_rfl) (by kernel_rfl) (by kernel_rfl) (fun _ _ _ h => h) (Or.inl ⟨by rfl, fun w0 ⟨s1, s2⟩ => ?_⟩) hHeld ?_
        · go_simp
        try simp only [Act.put, List.setIfInBounds_toArray, List.set_cons_zero, List.set_cons_succ, List.getElem_toArray, List.getElem_cons_zero, List.getElem_cons_succ]
        refine UpTil.take (i := 13) (v := .float .f64 4607182418800017408) rfl (by kernel_rfl) (by kernel_rfl) (by kernel_rfl) (by kernel_rfl) (by kernel_rfl) (fun _ _ _ h => h) (Or.inl ⟨by rfl, fun w0 ⟨s1, s2⟩ => ?_⟩) hHeld ?_
        · go_simp
        try simp only [Act.put, List.setIfInBounds_toArray, List.set_cons_zero, List.set_cons_succ, List.getElem_toArray, List.getElem_cons_zero, List.getElem_cons_succ]
        refine UpTil.one (i := 14) (by kernel_rfl) rfl rfl (fun K hK => ?_)
        go_simp
        refine (cD.out _).mono ?_
        rintro e w2 ⟨rfl, hb2⟩
        obtain ⟨u1, u3, uf, hO⟩ := hset.out w2 (Own.bundrew hb2)
        have hO := W_hid hO
        refine hK.out _ _ (fun _ => ⟨u1, u3⟩) ?_
        clear hK K
        try simp only [Act.put, List.setIfInBounds_toArray, List.set_cons_zero, List.set_cons_succ, List.getElem_toArray, List.getElem_cons_zero, List.getElem_cons_succ]
        refine UpTil.one (i := 15) (by kernel_rfl) rfl rfl (fun K hK => ?_)
        go_simp
        refine hK.out _ _ (fun _ => ⟨u1, u3⟩) ?_
        clear hK K
        try simp only [Act.put, List.setIfInBounds_toArray, List.set_cons_zero, List.set_cons_succ, List.getElem_toArray, List.getElem_cons_zero, List.getElem_cons_succ]
        refine UpTil.take (i := 16) (v := .float .f64 r) rfl (by kernel_rfl) (by kernel_rfl) (by kernel_rfl) (by kernel_rfl) (by kernel_rfl) (fun _ _ _ h => h) (Or.inl ⟨by rfl, fun w0 ⟨s1, s2⟩ => ?_⟩) ⟨u1, u3⟩ ?_
        · go_simp
        try simp only [Act.put, List.setIfInBounds_toArray, List.set_cons_zero, List.set_cons_succ, List.getElem_toArray, List.getElem_cons_zero, List.getElem_cons_succ]
        refine UpTil.takePure (i := 17) (v := .int .i64 0) rfl (by kernel_rfl) (by kernel_rfl) (by kernel_rfl) (by kernel_rfl) (fun _ _ _ h => h) (Or.inl ⟨by rfl, fun w0 _ => ?_⟩) ⟨u1, u3⟩ ?_
        · go_simp
        try simp only [Act.put, List.setIfInBounds_toArray, List.set_cons_zero, List.set_cons_succ, List.getElem_toArray, List.getElem_cons_zero, List.getElem_cons_succ]
        refine UpTil.one (i := 18) (by kernel_rfl) rfl rfl (fun K hK => ?_)
        go_simp
        refine hK.out _ _ (fun _ => ⟨u1, u3⟩) ?_
        clear hK K
        try simp only [Act.put, List.setIfInBounds_toArray, List.set_cons_zero, List.set_cons_succ, List.getElem_toArray, List.getElem_cons_zero, List.getElem_cons_succ]
        refine UpTil.one (i := 19) (by kernel_rfl) rfl rfl (fun K hK => ?_)
        go_simp
        refine hK.out _ _ (fun _ => ⟨u1, u3⟩) ?_
        clear hK K
        try simp only [Act.put, List.setIfInBounds_toArray, List.set_cons_zero, List.set_cons_succ, List.getElem_toArray, List.getElem_cons_zero, List.getElem_cons_succ]
        refine UpTil.last (by kernel_rfl) rfl rfl (by kernel_rfl) ?_
        go_simp
        go_wp2_with fail
        go_roundw
        case rel => exact ⟨k + 1, by omega, by go_num, W_hid hO.out.1, W_hid (hK.out.trans hO.out.2)⟩
        case measure => simp [intOf]; omega
      · have hon : (onP p P[k]).load = dk P[k].load 0 := by unfold onP; rw [if_neg hp]
        rw [hon] at hset
        obtain ⟨b, hb⟩ : ∃ b, P[k].load = b := ⟨_, rfl⟩
        rw [hb] at e3 hset hlo
        obtain ⟨a, ha⟩ : ∃ a, P[k].pid = a := ⟨_, rfl⟩
        rw [ha] at e0 hp
        have cD := W_hid (fun w => rdecay_one b 0 hlo (Nat.zero_le _) w)
        obtain ⟨r, hr⟩ : ∃ r, dk b 0 = r := ⟨_, rfl⟩
        rw [hr] at cD hset
        replace hset := W_hid hset
        replace hlo := W_hid hlo
        clear hkl hon hb hr ha
        go_wp2_with fail
        refine UpTil.region (S := (fun w' => w'.cell? ⟨rb, 0, none⟩ = some (.slice (some ⟨g, 0, none⟩) n cap) ∧ w'.cell? ⟨g, k * 4 + 3, none⟩ = some (.float .f64 b))) (m := 20) (by kernel_rfl) ⟨c0, e3⟩ (fun hHeld => ?_)
        refine UpTil.take (i := 0) (v := .pointer (some ⟨rb, 0, none⟩)) rfl (by kernel_rfl) (by kernel_rfl) (by kernel_rfl) (by kernel_rfl) (by kernel_rfl) (fun _ _ _ h => h) (Or.inl ⟨by rfl, fun w0 ⟨s1, s2⟩ => ?_⟩) hHeld ?_
        · go_simp
        try simp only [Act.put, List.setIfInBounds_toArray, List.set_cons_zero, List.set_cons_succ, List.getElem_toArray, List.getElem_cons_zero, List.getElem_cons_succ]
        refine UpTil.take (i := 1) (v := .pointer (some ⟨rb, 0, none⟩)) rfl (by kernel_rfl) (by kernel_rfl) (by kernel_rfl) (by kernel_rfl) (by kernel_rfl) (fun _ _ _ h => h) (Or.inl ⟨by rfl, fun w0 ⟨s1, s2⟩ => ?_⟩) hHeld ?_
        · go_simp
        try simp only [Act.put, List.setIfInBounds_toArray, List.set_cons_zero, List.set_cons_succ, List.getElem_toArray, List.getElem_cons_zero, List.getElem_cons_succ]
        refine UpTil.take (i := 2) (v := .pointer (some ⟨rb, 0, none⟩)) rfl (by kernel_rfl) (by kernel_rfl) (by kernel_rfl) (by kernel_rfl) (by kernel_rfl) (fun _ _ _ h => h) (Or.inl ⟨by rfl, fun w0 ⟨s1, s2⟩ => ?_⟩) hHeld ?_
        · go_simp
        try simp only [Act.put, List.setIfInBounds_toArray, List.set_cons_zero, List.set_cons_succ, List.getElem_toArray, List.getElem_cons_zero, List.getElem_cons_succ]
        refine UpTil.take (i := 3) (v := .slice (some ⟨g, 0, none⟩) n cap) rfl (by kernel_rfl) (by kernel_rfl) (by kernel_rfl) (by kernel_rfl) (by kernel_rfl) (fun _ _ _ h => h) (Or.inl ⟨by rfl, fun w0 ⟨s1, s2⟩ => ?_⟩) hHeld ?_
        · go_simp
        try simp only [Act.put, List.setIfInBounds_toArray, List.set_cons_zero, List.set_cons_succ, List.getElem_toArray, List.getElem_cons_zero, List.getElem_cons_succ]
        refine UpTil.take (i := 4) (v := .int .i64 (k : Int)) rfl (by kernel_rfl) (by kernel_rfl) (by kernel_rfl) (by kernel_rfl) (by kernel_rfl) (fun _ _ _ h => h) (Or.inl ⟨by rfl, fun w0 ⟨s1, s2⟩ => ?_⟩) hHeld ?_
        · go_simp
        try simp only [Act.put, List.setIfInBounds_toArray, List.set_cons_zero, List.set_cons_succ, List.getElem_toArray, List.getElem_cons_zero, List.getElem_cons_succ]
        refine UpTil.take (i := 5) (v := .pointer (some ⟨rb, 0, none⟩)) rfl (by kernel_rfl) (by kernel_rfl) (by kernel_rfl) (by kernel_rfl) (by kernel_rfl) (fun _ _ _ h => h) (Or.inl ⟨by rfl, fun w0 ⟨s1, s2⟩ => ?_⟩) hHeld ?_
        · go_simp
        try simp only [Act.put, List.setIfInBounds_toArray, List.set_cons_zero, List.set_cons_succ, List.getElem_toArray, List.getElem_cons_zero, List.getElem_cons_succ]
        refine UpTil.take (i := 6) (v := .pointer (some ⟨rb, 0, none⟩)) rfl (by kernel_rfl) (by kernel_rfl) (by kernel_rfl) (by kernel_rfl) (by kernel_rfl) (fun _ _ _ h => h) (Or.inl ⟨by rfl, fun w0 ⟨s1, s2⟩ => ?_⟩) hHeld ?_
        · go_simp
        try simp only [Act.put, List.setIfInBounds_toArray, List.set_cons_zero, List.set_cons_succ, List.getElem_toArray, List.getElem_cons_zero, List.getElem_cons_succ]
        refine UpTil.take (i := 7) (v := .pointer (some ⟨rb, 0, none⟩)) rfl (by kernel_rfl) (by kernel_rfl) (by kernel_rfl) (by kernel_rfl) (by kernel_rfl) (fun _ _ _ h => h) (Or.inl ⟨by rfl, fun w0 ⟨s1, s2⟩ => ?_⟩) hHeld ?_
        · go_simp
        try simp only [Act.put, List.setIfInBounds_toArray, List.set_cons_zero, List.set_cons_succ, List.getElem_toArray, List.getElem_cons_zero, List.getElem_cons_succ]
        refine UpTil.take (i := 8) (v := .slice (some ⟨g, 0, none⟩) n cap) rfl (by kernel_rfl) (by kernel_rfl) (by kernel_rfl) (by kernel_rfl) (by kernel_rfl) (fun _ _ _ h => h) (Or.inl ⟨by rfl, fun w0 ⟨s1, s2⟩ => ?_⟩) hHeld ?_
        · go_simp
        try simp only [Act.put, List.setIfInBounds_toArray, List.set_cons_zero, List.set_cons_succ, List.getElem_toArray, List.getElem_cons_zero, List.getElem_cons_succ]
        refine UpTil.take (i := 9) (v := .int .i64 (k : Int)) rfl (by kernel_rfl) (by kernel_rfl) (by kernel_rfl) (by kernel_rfl) (by kernel_rfl) (fun _ _ _ h => h) (Or.inl ⟨by rfl, fun w0 ⟨s1, s2⟩ => ?_⟩) hHeld ?_
        · go_simp
        try simp only [Act.put, List.setIfInBounds_toArray, List.set_cons_zero, List.set_cons_succ, List.getElem_toArray, List.getElem_cons_zero, List.getElem_cons_succ]
        refine UpTil.take (i := 10) (v := .pointer (some ⟨g, k * 4, none⟩)) rfl (by kernel_rfl) (by kernel_rfl) (by kernel_rfl) (by kernel_rfl) (by kernel_rfl) (fun _ _ _ h => h) (Or.inl ⟨by rfl, fun w0 ⟨s1, s2⟩ => ?_⟩) hHeld ?_
        · go_simp
        try simp only [Act.put, List.setIfInBounds_toArray, List.set_cons_zero, List.set_cons_succ, List.getElem_toArray, List.getElem_cons_zero, List.getElem_cons_succ]
        refine UpTil.take (i := 11) (v := .pointer (some ⟨g, k * 4 + 3, none⟩)) rfl (by kernel_rfl) (by kernel_rfl) (by kernel_rfl) (by kernel_rfl) (by kernel_rfl) (fun _ _ _ h => h) (Or.inl ⟨by rfl, fun w0 ⟨s1, s2⟩ => ?_⟩) hHeld ?_
        · go_simp
        try simp only [Act.put, List.setIfInBounds_toArray, List.set_cons_zero, List.set_cons_succ, List.getElem_toArray, List.getElem_cons_zero, List.getElem_cons_succ]
        refine UpTil.take (i := 12) (v := .float .f64 b) rfl (by kernel_rfl) (by kernel_rfl) (by kernel_rfl) (by kernel_rfl) (by kernel_rfl) (fun _ _ _ h => h) (Or.inl ⟨by rfl, fun w0 ⟨s1, s2⟩ => ?_⟩) hHeld ?_
        · go_simp
        try simp only [Act.put, List.setIfInBounds_toArray, List.set_cons_zero, List.set_cons_succ, List.getElem_toArray, List.getElem_cons_zero, List.getElem_cons_succ]
        refine UpTil.take (i := 13) (v := .float .f64 0) rfl (by kernel_rfl) (by kernel_rfl) (by kernel_rfl) (by kernel_rfl) (by kernel_rfl) (fun _ _ _ h => h) (Or.inl ⟨by rfl, fun w0 ⟨s1, s2⟩ => ?_⟩) hHeld ?_
        · go_simp
        try simp only [Act.put, List.setIfInBounds_toArray, List.set_cons_zero, List.set_cons_succ, List.getElem_toArray, List.getElem_cons_zero, List.getElem_cons_succ]
        refine UpTil.one (i := 14) (by kernel_rfl) rfl rfl (fun K hK => ?_)
        go_simp
        refine (cD.out _).mono ?_
        rintro e w2 ⟨rfl, hb2⟩
        obtain ⟨u1, u3, uf, hO⟩ := hset.out w2 (Own.bundrew hb2)
        have hO := W_hid hO
        refine hK.out _ _ (fun _ => ⟨u1, u3⟩) ?_
        clear hK K
        try simp only [Act.put, List.setIfInBounds_toArray, List.set_cons_zero, List.set_cons_succ, List.getElem_toArray, List.getElem_cons_zero, List.getElem_cons_succ]
        refine UpTil.one (i := 15) (by kernel_rfl) rfl rfl (fun K hK => ?_)
        go_simp
        refine hK.out _ _ (fun _ => ⟨u1, u3⟩) ?_
        clear hK K
        try simp only [Act.put, List.setIfInBounds_toArray, List.set_cons_zero, List.set_cons_succ, List.getElem_toArray, List.getElem_cons_zero, List.getElem_cons_succ]
        refine UpTil.take (i := 16) (v := .float .f64 r) rfl (by kernel_rfl) (by kernel_rfl) (by kernel_rfl) (by kernel_rfl) (by kernel_rfl) (fun _ _ _ h => h) (Or.inl ⟨by rfl, fun w0 ⟨s1, s2⟩ => ?_⟩) ⟨u1, u3⟩ ?_
        · go_simp
        try simp only [Act.put, List.setIfInBounds_toArray, List.set_cons_zero, List.set_cons_succ, List.getElem_toArray, List.getElem_cons_zero, List.getElem_cons_succ]
        refine UpTil.takePure (i := 17) (v := .int .i64 0) rfl (by kernel_rfl) (by kernel_rfl) (by kernel_rfl) (by kernel_rfl) (fun _ _ _ h => h) (Or.inl ⟨by rfl, fun w0 _ => ?_⟩) ⟨u1, u3⟩ ?_
        · go_simp
        try simp only [Act.put, List.setIfInBounds_toArray, List.set_cons_zero, List.set_cons_succ, List.getElem_toArray, List.getElem_cons_zero, List.getElem_cons_succ]
        refine UpTil.one (i := 18) (by kernel_rfl) rfl rfl (fun K hK => ?_)
        go_simp
        refine hK.out _ _ (fun _ => ⟨u1, u3⟩) ?_
        clear hK K
        try simp only [Act.put, List.setIfInBounds_toArray, List.set_cons_zero, List.set_cons_succ, List.getElem_toArray, List.getElem_cons_zero, List.getElem_cons_succ]
        refine UpTil.one (i := 19) (by kernel_rfl) rfl rfl (fun K hK => ?_)
        go_simp
        refine hK.out _ _ (fun _ => ⟨u1, u3⟩) ?_
        clear hK K
        try simp only [Act.put, List.setIfInBounds_toArray, List.set_cons_zero, List.set_cons_succ, List.getElem_toArray, List.getElem_cons_zero, List.getElem_cons_succ]
        refine UpTil.last (by kernel_rfl) rfl rfl (by kernel_rfl) ?_
        go_simp
        go_wp2_with fail
        go_roundw
        case rel => exact ⟨k + 1, by omega, by go_num, W_hid hO.out.1, W_hid (hK.out.trans hO.out.2)⟩
        case measure => simp [intOf]; omega
    · obtain rfl : k = n := by omega
      go_wp2_with fail
      go_end0
      exact ⟨rfl, hend.out _ hM.out, hK.out⟩
end
end SD
end Go.Proofs.Ytmikgkelmdgckaa
