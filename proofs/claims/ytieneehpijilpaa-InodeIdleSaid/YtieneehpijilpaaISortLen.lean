/- math/bits.Len: some number. -/
import Derived.Test.YtieneehpijilpaaISort1
namespace Go.Proofs.Ytieneehpijilpaa
open Go.ChangeShapes Go.WideShapes Go.ChangeAt Go.RowKit
set_option linter.unusedVariables false
set_option linter.unusedSimpArgs false
namespace IS

theorem und_str : Try.prog.underlying 9 = some .string := by kernel_rfl
theorem str_at (s : ByteArray) (hs : s.size = 256) (k : Int) (hk : 0 ≤ k) (hk2 : k < 256) : ∃ t : Nat, t ≤ 255 ∧ ∀ w, (Instr.index 9 (.string s) (.int .u8 k)).run Try.prog w = .ok (.int .u8 (t : Int)) w := by
  have hlt : k.toNat < s.size := by omega
  refine ⟨(s[k.toNat]).toNat, by have := (s[k.toNat]).toNat_lt; omega, fun w => ?_⟩
  rw [run_index_string w _ s _ _ und_str, dif_pos ⟨by omega, by omega⟩]

set_option maxRecDepth 100000 in
set_option maxHeartbeats 4000000 in
theorem Len64_any (X : Int) (w : World) (h0 : 0 ≤ X) (hX : X < 65536) : Calls Try.prog 88 #[.int .u64 X] w fun e w' => (∃ k : Nat, e = .returned (.int .i64 (k : Int)) ∧ k ≤ 300) ∧ w' = w := by
  have d1 : X < 4294967296 := by omega
  go_enter Try.func88, Try.ntmps88
  generalize hT : Value.string _ = T
  have hI : ∀ k : Int, 0 ≤ k → k < 256 → ∃ t : Nat, t ≤ 255 ∧ ∀ w, (Instr.index 9 T (.int .u8 k)).run Try.prog w = .ok (.int .u8 (t : Int)) w := by
    intro k hk hk2
    rw [← hT]
    exact str_at _ (by rfl) k hk hk2
  clear hT
  by_cases h : 256 ≤ X
  · obtain ⟨t, ht, hi⟩ := hI (X / 256) (by omega) (by omega)
    clear hI
    have q0 : 0 ≤ X / 256 := by omega
    have q1 : X / 256 < 256 := by omega
    go_wp2_with fail
    go_ret
    exact ⟨⟨t + 8, by simp; omega, by omega⟩, rfl⟩
  · obtain ⟨t, ht, hi⟩ := hI X (by omega) (by omega)
    clear hI
    have h2 : X < 256 := by omega
    go_wp2_with fail
    go_ret
    exact ⟨⟨t, rfl, by omega⟩, rfl⟩

set_option maxRecDepth 100000 in
set_option maxHeartbeats 4000000 in
theorem Len_any (X : Int) (w : World) (h0 : 0 ≤ X) (hX : X < 65536) : Calls Try.prog 75 #[.int .u64 X] w fun e w' => (∃ k : Nat, e = .returned (.int .i64 (k : Int)) ∧ k ≤ 300) ∧ w' = w := by
  have c := Len64_any X w h0 hX
  go_enter Try.func75, Try.ntmps75
  go_wp2_with (go_at_call 88; refine c.mono ?_; rintro e w' ⟨⟨k, rfl, hk⟩, rfl⟩)
  go_ret
  exact ⟨⟨k, rfl, hk⟩, rfl⟩
end IS
end Go.Proofs.Ytieneehpijilpaa
