/- Rows that are owned, continued: rows of rows, cut in two; a row cut in two reads so. Free of any program's numbers. -/
import Derived.Test.YtjafjjfcmcpaoaaOwn2
namespace Go.Proofs.Ytjafjjfcmcpaoaa
open Go.ChangeShapes Go.WideShapes Go.ChangeAt Go.RowKit
set_option linter.unusedVariables false
set_option linter.unusedSimpArgs false
namespace Own

section
variable {α β : Type}
theorem rows_len {c : Nat} : ∀ {r : List (List β)}, (∀ x ∈ r, x.length = c) → r.flatten.length = r.length * c
  | [], _ => by simp
  | x :: r, h => by
    rw [List.flatten_cons, List.length_append, h x (by simp), rows_len (r := r) (fun y hy => h y (List.mem_cons_of_mem _ hy)), List.length_cons, Nat.add_mul]; omega
theorem rows_get {c : Nat} : ∀ {r : List (List β)}, (∀ x ∈ r, x.length = c) → ∀ (i : Nat) (hi : i < r.length) (m : Nat), m < c → r.flatten[i * c + m]? = r[i][m]?
  | [], _, i, hi, _, _ => by simp at hi
  | x :: r, h, 0, _, m, hm => by
    rw [List.flatten_cons, Nat.zero_mul, Nat.zero_add, List.getElem?_append_left (by rw [h x (by simp)]; exact hm)]; rfl
  | x :: r, h, i + 1, hi, m, hm => by
    have hx := h x (by simp)
    have ih := rows_get (r := r) (fun y hy => h y (List.mem_cons_of_mem _ hy)) i (by simpa using hi) m hm
    rw [List.flatten_cons, List.getElem?_append_right (by rw [hx, Nat.add_mul]; omega), hx]
    rw [show (i + 1) * c + m - c = i * c + m by rw [Nat.add_mul]; omega, ih]
    rfl
theorem rows_set {c : Nat} : ∀ {r : List (List β)}, (∀ x ∈ r, x.length = c) → ∀ (i : Nat) (hi : i < r.length) (m : Nat) (u : β), m < c → r.flatten.set (i * c + m) u = (r.set i (r[i].set m u)).flatten
  | [], _, i, hi, _, _, _ => by simp at hi
  | x :: r, h, 0, _, m, u, hm => by
    have hx := h x (by simp)
    rw [List.flatten_cons, Nat.zero_mul, Nat.zero_add, List.set_append_left _ _ (by rw [hx]; exact hm)]
    rfl
  | x :: r, h, i + 1, hi, m, u, hm => by
    have hx := h x (by simp)
    have ih := rows_set (r := r) (fun y hy => h y (List.mem_cons_of_mem _ hy)) i (by simpa using hi) m u hm
    rw [List.flatten_cons, List.set_append_right _ _ (by rw [hx, Nat.add_mul]; omega), hx]
    rw [show (i + 1) * c + m - c = i * c + m by rw [Nat.add_mul]; omega, ih]
    rfl
theorem rows_take {c : Nat} : ∀ {r : List (List β)}, (∀ x ∈ r, x.length = c) → ∀ k : Nat, r.flatten.take (k * c) = (r.take k).flatten
  | [], _, k => by simp
  | x :: r, h, 0 => by simp
  | x :: r, h, k + 1 => by
    have hx := h x (by simp)
    have ih := rows_take (r := r) (fun y hy => h y (List.mem_cons_of_mem _ hy)) k
    rw [List.flatten_cons, List.take_succ_cons, List.flatten_cons, ← ih]
    rw [List.take_append, List.take_of_length_le (by rw [hx, Nat.add_mul]; omega), hx]
    rw [show (k + 1) * c - c = k * c by rw [Nat.add_mul]; omega]
theorem rows_drop {c : Nat} : ∀ {r : List (List β)}, (∀ x ∈ r, x.length = c) → ∀ k : Nat, r.flatten.drop (k * c) = (r.drop k).flatten
  | [], _, k => by simp
  | x :: r, h, 0 => by simp
  | x :: r, h, k + 1 => by
    have hx := h x (by simp)
    have ih := rows_drop (r := r) (fun y hy => h y (List.mem_cons_of_mem _ hy)) k
    rw [List.flatten_cons, List.drop_succ_cons, ← ih]
    rw [List.drop_append, List.drop_of_length_le (by rw [hx, Nat.add_mul]; omega), hx, List.nil_append]
    rw [show (k + 1) * c - c = k * c by rw [Nat.add_mul]; omega]
end

/-- A cut at the beginning. -/
theorem cut_lo {P : Program} {t e : TypeId} {z : Value} {size bytes : Nat} (ht : P.underlying t = some (.slice e)) (hel : P.elem t = e) (hinf : Own.Info P e z size bytes) (b o n cap k : Nat) (kk : Int) (hkk : kk = k) (hk : k ≤ n) (hn : n ≤ cap) :
    ∃ ad : Addr, (∀ W : World, (Instr.slice t (.slice (some ⟨b, o, none⟩) n cap) (some (.int .i64 kk)) none none).run P W = .ok (.slice (some ad) (n - k) (cap - k)) W) ∧ ad.block = b ∧ (0 < n - k → ad = ⟨b, o + k * size, none⟩) := by
  subst hkk
  obtain ⟨i, hi, hz, hsize, hby, hzs, hsz⟩ := hinf
  have hs : ∀ W : World, (sizeOf (P.elem t)).run P W = .ok size W := fun W => by rw [hel]; simp [sizeOf, typeInfo, hi, hsize]
  by_cases hc : cap = k
  · refine ⟨⟨b, o, none⟩, fun W => ?_, rfl, fun h => by omega⟩
    have hr := run_slice_l (P := P) W t (some ⟨b, o, none⟩) n cap (by rw [hel]; exact ht) .i64 (k : Int) (by omega) (by omega)
    rw [hs] at hr
    simp only [Result.andThen, sliced, Int.toNat_natCast, if_pos hc] at hr
    exact hr
  · refine ⟨⟨b, o + k * size, none⟩, fun W => ?_, rfl, fun _ => rfl⟩
    have hr := run_slice_l (P := P) W t (some ⟨b, o, none⟩) n cap (by rw [hel]; exact ht) .i64 (k : Int) (by omega) (by omega)
    rw [hs] at hr
    simp only [Result.andThen, sliced, Int.toNat_natCast, if_neg hc, Option.map_some, Addr.add_lit] at hr
    exact hr
/-- A cut at the end. -/
theorem cut_hi {P : Program} {t e : TypeId} {z : Value} {size bytes : Nat} (ht : P.underlying t = some (.slice e)) (hel : P.elem t = e) (hinf : Own.Info P e z size bytes) (a : Option Addr) (n cap k : Nat) (hk : k ≤ n) (hn : n ≤ cap) (ha : a = none ∨ ∃ b o, a = some ⟨b, o, none⟩) :
    ∀ W : World, (Instr.slice t (.slice a n cap) none (some (.int .i64 (k : Int))) none).run P W = .ok (.slice a k cap) W := by
  obtain ⟨i, hi, hz, hsize, hby, hzs, hsz⟩ := hinf
  intro W
  have hs : (sizeOf (P.elem t)).run P W = .ok size W := by rw [hel]; simp [sizeOf, typeInfo, hi, hsize]
  have hr := run_slice_h (P := P) W t a n cap (by rw [hel]; exact ht) .i64 (k : Int) (by omega) (by omega)
  rw [hs] at hr
  simp only [Result.andThen, sliced, Int.toNat_natCast, Nat.zero_mul, Nat.sub_zero] at hr
  rw [hr]
  rcases ha with rfl | ⟨b, o, rfl⟩
  · simp
  · simp [Addr.add_lit]
/-- A cut at the beginning of nothing. -/
theorem cut_none {P : Program} {t e : TypeId} {z : Value} {size bytes : Nat} (ht : P.underlying t = some (.slice e)) (hel : P.elem t = e) (hinf : Own.Info P e z size bytes) :
    ∀ W : World, (Instr.slice t (.slice none 0 0) (some (.int .i64 0)) none none).run P W = .ok (.slice none 0 0) W := by
  obtain ⟨i, hi, hz, hsize, hby, hzs, hsz⟩ := hinf
  intro W
  have hs : (sizeOf (P.elem t)).run P W = .ok size W := by rw [hel]; simp [sizeOf, typeInfo, hi, hsize]
  have hr := run_slice_l (P := P) W t none 0 0 (by rw [hel]; exact ht) .i64 0 (by omega) (by omega)
  rw [hs] at hr
  simp only [Result.andThen, sliced, Int.toNat_zero] at hr
  rw [hr]
  simp

/-- A row cut in two reads so. -/
theorem src_take {w : World} {base e size n : Nat} {v : Value} {xs : List Value} (h : w.ownsRow base e size v n xs) {a : Option Addr} {cap : Nat} (hv : v = .slice a n cap) (k : Nat) (hk : k ≤ n) : Own.Src w size (.slice a k cap) k (xs.take (k * size)) := by
  rcases h.2 with ⟨h1, h0⟩ | ⟨g, cap', cur, h1, hb, hg, hnc, hcm, hcs, htake⟩
  · subst h0
    obtain rfl : k = 0 := by omega
    rw [hv] at h1
    simp only [Value.slice.injEq] at h1
    obtain ⟨rfl, -, rfl⟩ := h1
    exact .inl ⟨rfl, rfl, by simp⟩
  · rw [hv] at h1
    simp only [Value.slice.injEq, true_and] at h1
    obtain ⟨rfl, rfl⟩ := h1
    refine .inr ⟨_, _, rfl, by rw [List.length_take, h.1]; exact Nat.min_eq_left (Nat.mul_le_mul_right _ hk), fun j u hu => ?_⟩
    rw [Addr.add_lit, Nat.zero_add, cell_of_row w g j cur e (0, 0) hg]
    rw [List.getElem?_take] at hu
    split at hu
    · rw [← htake, List.getElem?_take] at hu
      split at hu
      · simpa using hu
      · cases hu
    · cases hu
theorem src_drop {w : World} {base e size n : Nat} {b o cap : Nat} {xs : List Value} (h : w.ownsRow base e size (.slice (some ⟨b, o, none⟩) n cap) n xs) (k : Nat) (hk : k ≤ n) (ad : Addr) (c : Nat) (had : 0 < n - k → ad = ⟨b, o + k * size, none⟩) : Own.Src w size (.slice (some ad) (n - k) c) (n - k) (xs.drop (k * size)) := by
  have hlen : (xs.drop (k * size)).length = (n - k) * size := by rw [List.length_drop, h.1, Nat.sub_mul]
  refine .inr ⟨_, _, rfl, hlen, fun j u hu => ?_⟩
  rcases Nat.eq_zero_or_pos (n - k) with h0 | h0
  · rw [h0, Nat.zero_mul] at hlen
    rw [List.eq_nil_of_length_eq_zero hlen] at hu; cases hu
  · rw [had h0]
    rcases h.2 with ⟨h1, _⟩ | ⟨g, cap', cur, h1, hb, hg, hnc, hcm, hcs, htake⟩
    · simp at h1
    · simp only [Value.slice.injEq, Option.some.injEq, Addr.mk.injEq, and_true, true_and] at h1
      obtain ⟨⟨rfl, rfl⟩, rfl⟩ := h1
      rw [Addr.add_lit, Nat.zero_add, cell_of_row w b _ cur e (0, 0) hg]
      rw [List.getElem?_drop, ← htake, List.getElem?_take] at hu
      split at hu
      · simpa using hu
      · cases hu
end Own
end Go.Proofs.Ytjafjjfcmcpaoaa
