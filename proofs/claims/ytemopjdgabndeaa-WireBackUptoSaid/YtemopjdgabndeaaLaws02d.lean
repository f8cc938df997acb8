/- The laws of layer 2, continued: WireBack: where the arguments hold together at most 1048576 values and letters (two slices of nearly 2^47 bytes each make a third of more than 2^48, which no machine makes), it returns true, and its arguments read as before. -/
import Derived.Test.YtemopjdgabndeaaLaws02b
namespace Go.Proofs.Ytemopjdgabndeaa
open Go.ChangeShapes Go.WideShapes Go.ChangeAt Go.RowKit
open Go.ChangeMaps (open_string shut_string)
set_option linter.unusedVariables false

/-- What is taken where a number lies. -/
theorem back_number (ao : Option Addr) (n cap : Nat) (l0 r : List UInt8) (k : Nat) (hk : k < 18446744073709551616) (w : World) (hb : BS w ao n cap (l0 ++ (le 8 k ++ r))) :
    Calls Try.prog 9 #[.slice ao n cap, .int .i64 ((l0.length : Nat) : Int)] w fun e w' => e = .returned (.tuple #[.int .u64 k, .int .i64 (((l0.length + 8 : Nat)) : Int), .int .i64 0]) ∧ Below w.heap.size w w' := by
  have hl := hb.1
  simp only [List.length_append, le_length] at hl
  have h := TakeNumber_yes ao n cap _ l0.length w hb (by omega)
  have e : ((l0 ++ (le 8 k ++ r)).drop l0.length).take 8 = le 8 k := by
    rw [List.drop_left]
    exact List.take_left' (le_length 8 k)
  rw [e, num_le_eq 8 k hk] at h
  have e2 : ((l0.length + 8 : Nat) : Int) = ((l0.length : Nat) : Int) + 8 := by omega
  rw [e2]
  exact h
/-- What is taken where a text lies. -/
theorem back_text (ao : Option Addr) (n cap : Nat) (l0 r : List UInt8) (s : ByteArray) (hs : s.size ≤ 1048576) (w : World) (hb : BS w ao n cap (l0 ++ (le 4 s.size ++ (s.data.toList ++ r)))) :
    Calls Try.prog 14 #[.slice ao n cap, .int .i64 ((l0.length : Nat) : Int), .int .i64 (s.size : Int)] w fun e w' => e = .returned (.tuple #[.string s, .int .i64 (((l0.length + 4 + s.size : Nat)) : Int), .int .i64 0]) ∧ Below w.heap.size w w' := by
  have hl := hb.1
  have hsl : s.data.toList.length = s.size := by rw [Array.length_toList]; rfl
  simp only [List.length_append, le_length, hsl] at hl
  have hz : num (((l0 ++ (le 4 s.size ++ (s.data.toList ++ r))).drop l0.length).take 4) = s.size := by
    rw [List.drop_left, List.take_left' (le_length 4 s.size)]
    exact num_le_eq 4 _ (by omega)
  have h := TakeText_yes ao n cap _ l0.length s.size (s.size : Int) w hb hz (by omega) (Int.le_refl _) (by omega)
  have e : ((l0 ++ (le 4 s.size ++ (s.data.toList ++ r))).drop (l0.length + 4)).take s.size = s.data.toList := by
    rw [← List.append_assoc l0, List.drop_left' (by rw [List.length_append, le_length])]
    exact List.take_left' hsl
  rw [e, strOf_of] at h
  have e2 : ((l0.length + 4 + s.size : Nat) : Int) = ((l0.length : Nat) : Int) + 4 + (s.size : Int) := by omega
  rw [e2]
  exact h

set_option maxHeartbeats 1000000 in
theorem WireBack_walk (a0 : Option Addr) (len0 cap0 : Nat) (z0 : List Int) (a1 : Int) (a2 : ByteArray) (a3 : Option Addr) (len3 cap3 : Nat) (z3 : List Int) (w : World) (w0 : IsRow .u8 w a0 len0 cap0 z0) (w1 : (Lit.int .u64 a1).wf = true) (w2 : a2.size ≤ maxLen) (w3 : IsRow .u8 w a3 len3 cap3 z3)
    (s0 : cap0 ≤ 1048576) (s2 : a2.size ≤ 1048576) (s3 : cap3 ≤ 1048576) :
    Calls Try.prog 5 #[.slice a0 len0 cap0, .int .u64 a1, .string a2, .slice a3 len3 cap3] w fun e w' => e = .returned (.bool true) ∧ Below w.heap.size w w' := by
  obtain ⟨l0, hb0⟩ := bytes_of_row w0
  obtain ⟨l3, hb3⟩ := bytes_of_row w3
  obtain ⟨k, rfl, hk⟩ := nat_u64 w1
  obtain ⟨i0, hi, hz0, hz1, hz2⟩ := info_parts info_u8
  have hc0 := hb0.2.1
  have hc3 := hb3.2.1
  have hl0 : len0 = l0.length := hb0.1.symm
  subst hl0
  clear w0 w1 w2 w3
  by_cases hlong : a2.size ≤ 100000
  · go_enter Try.func5, Try.ntmps5
    go_wp2_with fail
    refine (head_text w).mono ?_
    rintro e w1 ⟨g1, rfl, _, _, bel1⟩
    have hb01 := hb0.below bel1 (Nat.le_refl _)
    go_wp2_with fail
    refine (Number_any a0 l0.length cap0 l0 k hk w1 hb01 (by omega)).mono ?_
    rintro e w2 ⟨g2, rfl, hown2, bel2⟩
    have hb2 := BS_own hown2
    clear hown2
    go_wp2_with fail
    refine (Text_fits _ _ _ _ a2 w2 hb2 (by omega) (by omega)).mono ?_
    rintro e w3 ⟨g3, rfl, hown3, bel3⟩
    have hb3y := BS_own hown3
    clear hown3
    have bel03 := (bel1.trans (bel2.mono bel1.size)).trans (bel3.mono (Nat.le_trans bel1.size bel2.size))
    have hb33 := hb3.below bel03 (Nat.le_refl _)
    have hmx : (l0.length + 8 + (4 + a2.size)) + len3 ≤ maxLen := by unfold maxLen; omega
    go_wp2_with (first
      | (at_make; refine wpList_make_own _ rfl _ _ 22 rfl w3.heap.size 5 i0 (.int .u8 0) 1 Try.underlying22 hi hz0 hz1 .i64 .i64 _ ((l0.length + 8 + (4 + a2.size)) + len3) rfl rfl (by omega) (by rw [hz2]; omega) hmx (Nat.le_refl _) ?_; intro w4 hown4 hgrow4)
      | (at_builtin; refine wpList_append_fits_any _ rfl (.tmp 44) (.tmp 45) 22 rfl w3.heap.size 5 i0 1 Try.underlying22 hi hz1 _ 0 ((l0.length + 8 + (4 + a2.size)) + len3) [] rfl hown4 (some ⟨g3, 0, none⟩) (l0.length + 8 + (4 + a2.size)) (l0.length + 8 + (4 + a2.size)) (cel (l0 ++ le 8 k ++ le 4 a2.size ++ a2.data.toList)) rfl (by rw [cel_length]; exact hb3y.1.trans (Nat.mul_one _).symm) hb3y.none (hb3y.below ((Below.refl _ _).grown hgrow4 (Nat.le_refl _) (fun k h => by cases h)) (Nat.le_refl _)).2.2.2.2 (cel_one _) (by omega) ?_; intro w5 hown5 hgrow5)
      | (at_builtin; refine wpList_append_fits_any _ rfl (.tmp 46) (.tmp 47) 22 rfl w3.heap.size 5 i0 1 Try.underlying22 hi hz1 _ (0 + (l0.length + 8 + (4 + a2.size))) ((l0.length + 8 + (4 + a2.size)) + len3) _ (by simp [Act.eval]) hown5 a3 len3 cap3 (cel l3) rfl (by rw [cel_length]; exact hb33.1.trans (Nat.mul_one _).symm) hb33.none (hb33.below (((Below.refl _ _).grown hgrow4 (Nat.le_refl _) (fun k h => by cases h)).grown hgrow5 hgrow4.size (fun k h => by cases h; exact Nat.le_refl _)) (Nat.le_refl _)).2.2.2.2 (cel_one _) (by omega) ?_; intro w6 hown6 hgrow6))
    have bel36 : Below w3.heap.size w3 w6 := (((Below.refl _ _).grown hgrow4 (Nat.le_refl _) (fun k h => by cases h)).grown hgrow5 hgrow4.size (fun k h => by cases h; exact Nat.le_refl _)).grown hgrow6 (Nat.le_trans hgrow4.size hgrow5.size) (fun k h => by cases h; exact Nat.le_refl _)
    have bel06 := bel03.trans (bel36.mono bel03.size)
    have eq6 : ([] ++ cel (l0 ++ le 8 k ++ le 4 a2.size ++ a2.data.toList)) ++ cel l3 = cel (l0 ++ (le 8 k ++ (le 4 a2.size ++ (a2.data.toList ++ l3)))) := by simp [cel_append]
    rw [eq6] at hown6
    have hb6 := BS_own hown6
    rw [Nat.zero_add] at hb6
    clear hown4 hown5 hown6 hgrow4 hgrow5 hgrow6 eq6
    have hb6t : BS w6 (some ⟨w3.heap.size, 0, none⟩) ((l0.length + 8 + (4 + a2.size)) + len3) ((l0.length + 8 + (4 + a2.size)) + len3) ((l0 ++ le 8 k) ++ (le 4 a2.size ++ (a2.data.toList ++ l3))) := by rw [List.append_assoc]; exact hb6
    refine (back_number (some ⟨w3.heap.size, 0, none⟩) ((l0.length + 8 + (4 + a2.size)) + len3) ((l0.length + 8 + (4 + a2.size)) + len3) l0 _ k hk w6 hb6).mono ?_
    rintro e w7 ⟨rfl, bel7⟩
    have hq := back_text (some ⟨w3.heap.size, 0, none⟩) ((l0.length + 8 + (4 + a2.size)) + len3) ((l0.length + 8 + (4 + a2.size)) + len3) (l0 ++ le 8 k) l3 a2 (by omega) w7 (hb6t.below bel7 (Nat.le_refl _))
    rw [show (l0 ++ le 8 k).length = l0.length + 8 from by rw [List.length_append, le_length]] at hq
    go_wp2_with fail
    refine hq.mono ?_
    rintro e w8 ⟨rfl, bel8⟩
    clear hq
    have hqe : (((l0.length : Nat) : Int) + 8 + 4 + (a2.size : Int) == ((l0.length : Nat) : Int) + 8 + (4 + (a2.size : Int))) = true := by simp; omega
    go_wp2_with fail
    go_ret
    exact ⟨rfl, (bel06.trans (bel7.mono bel06.size)).trans (bel8.mono (Nat.le_trans bel06.size bel7.size))⟩
  · obtain ⟨s, hs⟩ : ∃ s, s = a2.extract 0 100000 := ⟨_, rfl⟩
    have hss : s.size ≤ 100000 := by rw [hs, extract_size a2 100000 (by omega)]; exact Nat.le_refl _
    have Hs : Hid _ := hs
    clear hs
    go_enter Try.func5, Try.ntmps5
    go_wp2_with fail
    refine (head_text w).mono ?_
    rintro e w1 ⟨g1, rfl, _, _, bel1⟩
    have hb01 := hb0.below bel1 (Nat.le_refl _)
    go_wp2_with fail
    rw [← Hs.out]
    refine (Number_any a0 l0.length cap0 l0 k hk w1 hb01 (by omega)).mono ?_
    rintro e w2 ⟨g2, rfl, hown2, bel2⟩
    have hb2 := BS_own hown2
    clear hown2
    go_wp2_with fail
    refine (Text_fits _ _ _ _ s w2 hb2 (by omega) (by omega)).mono ?_
    rintro e w3 ⟨g3, rfl, hown3, bel3⟩
    have hb3y := BS_own hown3
    clear hown3
    have bel03 := (bel1.trans (bel2.mono bel1.size)).trans (bel3.mono (Nat.le_trans bel1.size bel2.size))
    have hb33 := hb3.below bel03 (Nat.le_refl _)
    have hmx : (l0.length + 8 + (4 + s.size)) + len3 ≤ maxLen := by unfold maxLen; omega
    go_wp2_with (first
      | (at_make; refine wpList_make_own _ rfl _ _ 22 rfl w3.heap.size 5 i0 (.int .u8 0) 1 Try.underlying22 hi hz0 hz1 .i64 .i64 _ ((l0.length + 8 + (4 + s.size)) + len3) rfl rfl (by omega) (by rw [hz2]; omega) hmx (Nat.le_refl _) ?_; intro w4 hown4 hgrow4)
      | (at_builtin; refine wpList_append_fits_any _ rfl (.tmp 44) (.tmp 45) 22 rfl w3.heap.size 5 i0 1 Try.underlying22 hi hz1 _ 0 ((l0.length + 8 + (4 + s.size)) + len3) [] rfl hown4 (some ⟨g3, 0, none⟩) (l0.length + 8 + (4 + s.size)) (l0.length + 8 + (4 + s.size)) (cel (l0 ++ le 8 k ++ le 4 s.size ++ s.data.toList)) rfl (by rw [cel_length]; exact hb3y.1.trans (Nat.mul_one _).symm) hb3y.none (hb3y.below ((Below.refl _ _).grown hgrow4 (Nat.le_refl _) (fun k h => by cases h)) (Nat.le_refl _)).2.2.2.2 (cel_one _) (by omega) ?_; intro w5 hown5 hgrow5)
      | (at_builtin; refine wpList_append_fits_any _ rfl (.tmp 46) (.tmp 47) 22 rfl w3.heap.size 5 i0 1 Try.underlying22 hi hz1 _ (0 + (l0.length + 8 + (4 + s.size))) ((l0.length + 8 + (4 + s.size)) + len3) _ (by simp [Act.eval]) hown5 a3 len3 cap3 (cel l3) rfl (by rw [cel_length]; exact hb33.1.trans (Nat.mul_one _).symm) hb33.none (hb33.below (((Below.refl _ _).grown hgrow4 (Nat.le_refl _) (fun k h => by cases h)).grown hgrow5 hgrow4.size (fun k h => by cases h; exact Nat.le_refl _)) (Nat.le_refl _)).2.2.2.2 (cel_one _) (by omega) ?_; intro w6 hown6 hgrow6))
    have bel36 : Below w3.heap.size w3 w6 := (((Below.refl _ _).grown hgrow4 (Nat.le_refl _) (fun k h => by cases h)).grown hgrow5 hgrow4.size (fun k h => by cases h; exact Nat.le_refl _)).grown hgrow6 (Nat.le_trans hgrow4.size hgrow5.size) (fun k h => by cases h; exact Nat.le_refl _)
    have bel06 := bel03.trans (bel36.mono bel03.size)
    have eq6 : ([] ++ cel (l0 ++ le 8 k ++ le 4 s.size ++ s.data.toList)) ++ cel l3 = cel (l0 ++ (le 8 k ++ (le 4 s.size ++ (s.data.toList ++ l3)))) := by simp [cel_append]
    rw [eq6] at hown6
    have hb6 := BS_own hown6
    rw [Nat.zero_add] at hb6
    clear hown4 hown5 hown6 hgrow4 hgrow5 hgrow6 eq6
    have hb6t : BS w6 (some ⟨w3.heap.size, 0, none⟩) ((l0.length + 8 + (4 + s.size)) + len3) ((l0.length + 8 + (4 + s.size)) + len3) ((l0 ++ le 8 k) ++ (le 4 s.size ++ (s.data.toList ++ l3))) := by rw [List.append_assoc]; exact hb6
    refine (back_number (some ⟨w3.heap.size, 0, none⟩) ((l0.length + 8 + (4 + s.size)) + len3) ((l0.length + 8 + (4 + s.size)) + len3) l0 _ k hk w6 hb6).mono ?_
    rintro e w7 ⟨rfl, bel7⟩
    have hq := back_text (some ⟨w3.heap.size, 0, none⟩) ((l0.length + 8 + (4 + s.size)) + len3) ((l0.length + 8 + (4 + s.size)) + len3) (l0 ++ le 8 k) l3 s (by omega) w7 (hb6t.below bel7 (Nat.le_refl _))
    rw [show (l0 ++ le 8 k).length = l0.length + 8 from by rw [List.length_append, le_length]] at hq
    go_wp2_with fail
    refine hq.mono ?_
    rintro e w8 ⟨rfl, bel8⟩
    clear hq
    have hqe : (((l0.length : Nat) : Int) + 8 + 4 + (s.size : Int) == ((l0.length : Nat) : Int) + 8 + (4 + (s.size : Int))) = true := by simp; omega
    go_wp2_with fail
    go_ret
    exact ⟨rfl, (bel06.trans (bel7.mono bel06.size)).trans (bel8.mono (Nat.le_trans bel06.size bel7.size))⟩

set_option maxRecDepth 100000 in
theorem WireBack_lifted (os : Os) (started : os.Started) (H : Type) (enc : TypeId × Value → H) (F : Stop.Interp) :
    ReturnsInHanded {} Try.checked os 5 .any ((Rows.OpenSpec.upto Rows.wireBackSpec).pre6 enc Try.prog Try.f5 Rows.wireBackUptoRow.domain false) (((Rows.OpenSpec.upto Rows.wireBackSpec).at F).post enc Try.prog Try.f5 false true false false) := by
  refine returnsInHanded_of_cond (C := Try.checked) (s := Rows.OpenSpec.upto Rows.wireBackSpec) (k := Rows.uptoSmall) rfl (by kernel_rfl) started (by kernel_rfl) Try.func5
    (OpenSpec.witness (enc := enc) (C := Try.checked) (s := Rows.OpenSpec.upto Rows.wireBackSpec) (k := Rows.uptoSmall) rfl false ⟨#[], #[.slice none 0 0, .int .u64 0, .string ByteArray.empty, .slice none 0 0], []⟩ 8 (by kernel_rfl) (by kernel_rfl) (by kernel_rfl)
      (x := ([.nil, .lit (.int .u64 0), .lit (.string []), .nil], [], [])) (by kernel_rfl) rfl (by kernel_rfl)) ?_
  intro W base args ds gs before hval0 hW hcnd hk0 _
  have hk : Rows.uptoBulkAll (ds ++ gs) ≤ 1048576 := of_decide_eq_true hk0
  clear hk0
  have hval : ∀ (j : Nat) t v, Try.f5.params[j]? = some t → args[j]? = some v → Value.okWide Try.prog W .any base t v := hval0
  have hW' := hW
  obtain ⟨p, q, hA0, hV, rfl, hfz, hnd⟩ := hW
  have hA : DataW.TrodAll enc Try.prog W 0 (fun _ => true) true Try.f5.params.toList args.toList ds p := hA0
  rw [Try.params5] at hA hval
  obtain ⟨v0, vs0, d0, ds0, p0, q0, hargs, rfl, rfl, h0, r0⟩ := trodAll_cons hA
  obtain ⟨v1, vs1, d1, ds1, p1, q1, rfl, rfl, rfl, h1, r1⟩ := trodAll_cons r0
  obtain ⟨v2, vs2, d2, ds2, p2, q2, rfl, rfl, rfl, h2, r2⟩ := trodAll_cons r1
  obtain ⟨v3, vs3, d3, ds3, p3, q3, rfl, rfl, rfl, h3, r3⟩ := trodAll_cons r2
  obtain ⟨rfl, rfl, rfl⟩ := trodAll_nil r3
  obtain rfl : args = #[v0, v1, v2, v3] := by cases args; simp_all
  obtain ⟨rfl, rfl⟩ := trodVars_none hV
  simp only [List.append_nil, Rows.uptoBulkAll] at hk
  obtain ⟨a0, len0, cap0, rfl⟩ := okWide_slice Try.underlying22 (hval 0 22 v0 rfl rfl)
  have k0 := h0
  have lt0 : ∀ x ∈ p0, x.block < W.heap.size := by obtain ⟨m, hm⟩ := k0; exact DataW.trod_lt m _ _ _ hm
  obtain ⟨z0, w0, s0⟩ : ∃ zs, IsRow .u8 W a0 len0 cap0 zs ∧ cap0 ≤ 1048576 := by
    obtain ⟨fuel, hf⟩ := h0
    rcases open_ints Try.underlying22 Try.underlying5 (by kernel_rfl) hf with ⟨hcs, _⟩ | ⟨x, l, c, zs, hcs, _, hl, hm, hz, hx, hcell, hwz⟩
    · simp [Value.cells] at hcs
      obtain ⟨rfl, rfl, rfl⟩ := hcs
      exact ⟨[], .inl ⟨rfl, rfl, rfl, rfl⟩, by simp⟩
    · simp [Value.cells] at hcs
      obtain ⟨rfl, rfl, rfl⟩ := hcs
      have hz2 : zs.length = cap0 := by simpa using hz
      have hs := bulk_slice (H := H) (lits .u8 (zs.take len0)) (lits .u8 (zs.drop len0))
      rw [← (Prod.mk.inj hx).1] at hs
      simp only [lits, List.length_map, List.length_take, List.length_drop] at hs
      exact ⟨zs, .inr ⟨_, rfl, hl, hm, hz2, hcell, hwz⟩, by omega⟩
  obtain ⟨a1, rfl, rfl, rfl, w1⟩ := open_int Try.underlying23 (hval 1 23 v1 rfl rfl) h1
  obtain ⟨a2, rfl, rfl, rfl, w2⟩ := open_string Try.underlying9 (hval 2 9 v2 rfl rfl) h2
  have s2 : a2.size ≤ 1048576 := by
    simp only [Rows.uptoBulk, Array.length_toList] at hk; show a2.data.size ≤ _; omega
  obtain ⟨a3, len3, cap3, rfl⟩ := okWide_slice Try.underlying22 (hval 3 22 v3 rfl rfl)
  have k3 := h3
  have lt3 : ∀ x ∈ p3, x.block < W.heap.size := by obtain ⟨m, hm⟩ := k3; exact DataW.trod_lt m _ _ _ hm
  obtain ⟨z3, w3, s3⟩ : ∃ zs, IsRow .u8 W a3 len3 cap3 zs ∧ cap3 ≤ 1048576 := by
    obtain ⟨fuel, hf⟩ := h3
    rcases open_ints Try.underlying22 Try.underlying5 (by kernel_rfl) hf with ⟨hcs, _⟩ | ⟨x, l, c, zs, hcs, _, hl, hm, hz, hx, hcell, hwz⟩
    · simp [Value.cells] at hcs
      obtain ⟨rfl, rfl, rfl⟩ := hcs
      exact ⟨[], .inl ⟨rfl, rfl, rfl, rfl⟩, by simp⟩
    · simp [Value.cells] at hcs
      obtain ⟨rfl, rfl, rfl⟩ := hcs
      have hz2 : zs.length = cap3 := by simpa using hz
      have hs := bulk_slice (H := H) (lits .u8 (zs.take len3)) (lits .u8 (zs.drop len3))
      rw [← (Prod.mk.inj hx).1] at hs
      simp only [lits, List.length_map, List.length_take, List.length_drop] at hs
      exact ⟨zs, .inr ⟨_, rfl, hl, hm, hz2, hcell, hwz⟩, by omega⟩
  clear hA0 hval0
  refine (WireBack_walk a0 len0 cap0 z0 a1 a2 a3 len3 cap3 z3 W w0 w1 w2 w3 s0 s2 s3).mono fun e W' ⟨he, bel⟩ => ?_
  subst he
  exact ⟨_, rfl, _, _, _, [], _, [], hW', trodAll_mk1 (shut_bool Try.underlying4 _), (trodAll_cons_mk (Below.trod laidOut (by kernel_rfl) (of_decide_eq_true (by kernel_rfl)) k0 bel lt0) (trodAll_cons_mk (shut_int Try.underlying23 w1) (trodAll_cons_mk (shut_string Try.underlying9 w2) (trodAll_cons_mk (Below.trod laidOut (by kernel_rfl) (of_decide_eq_true (by kernel_rfl)) k3 bel lt3) trodAll_mk0)))), rfl, bel.frame _, fun h => by cases h⟩

/-- The given statement of WireBack. -/
theorem WireBack_holds : Rows.WireBackUptoSaid :=
  OpenClaim.holds_of_cond 5 Try.f5 rfl rfl rfl rfl rfl rfl rfl ⟨rfl, rfl, rfl, rfl, rfl⟩ rfl rfl rfl rfl rfl (by kernel_rfl) Try.func5 (by kernel_rfl)
    (of_decide_eq_true (by kernel_rfl)) (by unfold Func.isWrapper; first | (rw [if_pos (by decide +kernel)]; kernel_rfl) | (rw [if_neg (by decide +kernel)]; exact ⟨rfl, rfl⟩))
    (fun os started H enc _ F => WireBack_lifted os started H enc F)

end Go.Proofs.Ytemopjdgabndeaa
