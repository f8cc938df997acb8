/- Contract of package radix's take: so many frames out of the pool, or none. -/
import Derived.Test.YthiojnbnhagcgaaDoorRadTree
import Derived.Test.YthiojnbnhagcgaaDoorFramePool
import Derived.Test.YthiojnbnhagcgaaDoorOwn
namespace Go.Proofs.YthiojnbnhagcgaaDoor
open Go.ChangeShapes Go.WideShapes Go.ChangeAt Go.RowKit
set_option linter.unusedVariables false
set_option linter.unusedSimpArgs false

def ucel (fs : List Nat) : List Value := fs.map fun f => .int .u64 ((f : Nat) : Int)
theorem ucel_length (fs : List Nat) : (ucel fs).length = fs.length := by simp [ucel]
theorem ucel_append (a b : List Nat) : ucel (a ++ b) = ucel a ++ ucel b := by simp [ucel]
theorem ucel_get (fs : List Nat) (j : Nat) (hj : j < fs.length) : (ucel fs)[j]? = some (.int .u64 ((fs[j] : Nat) : Int)) := by simp [ucel, hj]

/-- Frames taken, one behind the other, each the lowest that is free. -/
def takeAll (T : Nat → Bool) (fs : List Nat) : Nat → Bool := fun x => if x ∈ fs then true else T x
theorem take_nil (T : Nat → Bool) : takeAll T [] = T := by funext x; simp [takeAll]
theorem take_snoc' (T : Nat → Bool) (fs : List Nat) (f : Nat) : FR.st (takeAll T fs) f 1 true = takeAll T (fs ++ [f]) := by
  funext x
  unfold FR.st takeAll
  by_cases h1 : x = f
  · subst h1; simp
  · by_cases h2 : x ∈ fs
    · simp [h2]
    · simp [h1, h2]; try omega
def Takes (T : Nat → Bool) (n : Nat) (fs : List Nat) : Prop := ∀ (j : Nat) (hj : j < fs.length), FR.Low (takeAll T (fs.take j)) n 1 fs[j]
theorem low_one {T : Nat → Bool} {n f : Nat} (h : FR.Low T n 1 f) : f < n ∧ T f = false := ⟨by have := h.2.1; omega, h.2.2.1 0 (by omega)⟩
theorem gets_one {T : Nat → Bool} {n f : Nat} (h : FR.Low T n 1 f) : FR.Gets T n 1 f 0 (FR.st T f 1 true) := .inr (.inr ⟨rfl, 1, rfl, ⟨0, by omega, rfl⟩, h, rfl⟩)
theorem gets_none {T : Nat → Bool} {n : Nat} (h : FR.NoLow T n 1) : FR.Gets T n 1 0 24 T := .inr (.inl ⟨rfl, rfl, rfl, 1, rfl, ⟨0, by omega, rfl⟩, h⟩)
theorem Takes.upto {T : Nat → Bool} {n : Nat} {fs : List Nat} (h : Takes T n fs) (k : Nat) : Takes T n (fs.take k) := by
  intro j hj
  rw [List.length_take] at hj
  rw [List.getElem_take, List.take_take, Nat.min_eq_left (by omega)]
  exact h j (by omega)
theorem Takes.snoc {T : Nat → Bool} {n f : Nat} {fs : List Nat} (h : Takes T n fs) (hf : FR.Low (takeAll T fs) n 1 f) : Takes T n (fs ++ [f]) := by
  intro j hj
  rw [List.length_append, List.length_singleton] at hj
  by_cases e : j < fs.length
  · rw [List.getElem_append_left e, List.take_append_of_le_length (by omega)]
    exact h j e
  · obtain rfl : j = fs.length := by omega
    simpa using hf
theorem Takes.free {T : Nat → Bool} {n : Nat} {fs : List Nat} (h : Takes T n fs) : ∀ f ∈ fs, f < n ∧ T f = false := by
  intro f hf
  obtain ⟨j, hj, rfl⟩ := List.getElem_of_mem hf
  obtain ⟨h1, h2⟩ := low_one (h j hj)
  refine ⟨h1, ?_⟩
  unfold takeAll at h2
  by_cases e : fs[j] ∈ fs.take j
  · rw [if_pos e] at h2; cases h2
  · rw [if_neg e] at h2; exact h2
theorem Takes.nodup {T : Nat → Bool} {n : Nat} {fs : List Nat} (h : Takes T n fs) : fs.Nodup := by
  rw [List.nodup_iff_pairwise_ne, List.pairwise_iff_getElem]
  intro i j hi hj hij e
  have h2 := (low_one (h j hj)).2
  unfold takeAll at h2
  rw [if_pos (by rw [← e]; exact List.mem_take_iff_getElem.2 ⟨i, by omega, rfl⟩)] at h2
  cases h2
theorem take_free (T : Nat → Bool) (n : Nat) (fs : List Nat) (h : Takes T n fs) : freeAll (takeAll T fs) fs = T := by
  funext x
  unfold freeAll takeAll
  by_cases e : x ∈ fs
  · rw [if_pos e, (h.free x e).2]
  · rw [if_neg e, if_neg e]
theorem takes_or (T : Nat → Bool) (n : Nat) : ∀ k, (∃ fs, fs.length = k ∧ Takes T n fs) ∨ ∃ fs, fs.length < k ∧ Takes T n fs ∧ FR.NoLow (takeAll T fs) n 1
  | 0 => .inl ⟨[], rfl, fun j hj => by simp at hj⟩
  | k + 1 => by
    rcases takes_or T n k with ⟨fs, hl, h⟩ | ⟨fs, hl, h, hn⟩
    · rcases FR.low_or (takeAll T fs) n 1 with ⟨f, hf⟩ | hno
      · exact .inl ⟨fs ++ [f], by simp [hl], h.snoc hf⟩
      · exact .inr ⟨fs, by omega, h, hno⟩
    · exact .inr ⟨fs, by omega, h, hn⟩

def slen : Value → Nat
  | .slice _ n _ => n
  | _ => 0
theorem own_lt {w : World} {base e size n : Nat} {v : Value} {xs : List Value} (h : w.ownsRow base e size v n xs) (x : Nat) (hx : v.ownBlock = some x) : x < w.heap.size := by
  rcases h.2 with ⟨rfl, _⟩ | ⟨g, cap, cur, rfl, _, hg, _⟩
  · cases hx
  · obtain rfl : g = x := by simpa [Value.ownBlock] using hx
    rcases Nat.lt_or_ge g w.heap.size with hlt | hge
    · exact hlt
    · rw [Array.getElem?_eq_none hge] at hg; cases hg
theorem own_apart {v1 v2 : Value} (h : ∀ x, v1.ownBlock = some x → v2.ownBlock ≠ some x) : v2.ownBlock = none ∨ v2.ownBlock ≠ v1.ownBlock := by
  cases h2 : v2.ownBlock with
  | none => exact .inl rfl
  | some y => exact .inr fun e => h y e.symm h2
theorem own_apart' {v1 v2 : Value} (h : ∀ x, v1.ownBlock = some x → v2.ownBlock ≠ some x) : v1.ownBlock = none ∨ v1.ownBlock ≠ v2.ownBlock := by
  cases h2 : v1.ownBlock with
  | none => exact .inl rfl
  | some y => exact .inr fun e => h y h2 e.symm
theorem zero_cells : Tryd.zeroCells50.toList.length = 512 := by kernel_rfl

theorem look_none {w : World} {b f : Nat} {M : Nat → Option (Nat → Nat)} (h : MB w b M) (hf : f < 65536) (hM : M f = none) :
    (Instr.lookup 51 (.map (some b)) (.int .u64 (f : Int)) true).run Tryd.prog w = .ok (.tuple #[.agg (tw zero).toArray, .bool false]) w := by
  have := h.look_ok f (by omega)
  rw [hM] at this
  exact this
theorem zero_len (ws : Nat → Nat) : Tryd.zeroCells50.toList.toArray.size = (tw ws).toArray.size := by
  rw [List.size_toArray, List.size_toArray, tw_len, zero_cells]
theorem blk_zero (w : World) : Blk (w.alloc (.cells Tryd.zeroCells50 50)) w.heap.size 50 Tryd.zeroCells50.toList := by
  show _ = _
  rw [Array.toArray_toList]
  exact heap_alloc_new w _
/-- Two rows that a call owns, apart from one another. -/
structure Pair (w : World) (B j1 : Nat) (v1 : Value) (f1 : List Nat) (j2 : Nat) (v2 : Value) (f2 : List Nat) : Prop where
  o1 : w.ownsRow B 22 1 v1 j1 (ucel f1)
  o2 : w.ownsRow B 22 1 v2 j2 (ucel f2)
  ne : ∀ x, v1.ownBlock = some x → v2.ownBlock ≠ some x
section
variable {w w2 w3 : World} {B j1 j2 : Nat} {v1 v2 v' : Value} {f1 f2 f' : List Nat}
theorem own_two {g b : Nat} {base e size n : Nat} {v : Value} {xs : List Value} (h : w.ownsRow base e size v n xs) (t : Two g b w w2) (hg : g < base) (hb : b < base) : w2.ownsRow base e size v n xs := by
  rcases h.2 with h0 | ⟨y, cap, cur, h1, h2, h3, h4⟩
  · exact ⟨h.1, .inl h0⟩
  · have hy : y < w.heap.size := own_lt h y (by rw [h1]; rfl)
    exact ⟨h.1, .inr ⟨y, cap, cur, h1, h2, (t.block y hy (by omega) (by omega)).trans h3, h4⟩⟩
theorem Pair.two {g b : Nat} (h : Pair w B j1 v1 f1 j2 v2 f2) (t : Two g b w w2) (hg : g < B) (hb : b < B) : Pair w2 B j1 v1 f1 j2 v2 f2 := ⟨own_two h.o1 t hg hb, own_two h.o2 t hg hb, h.ne⟩
theorem Pair.keep (h : Pair w B j1 v1 f1 j2 v2 f2) (hb : Below w.heap.size w w2) : Pair w2 B j1 v1 f1 j2 v2 f2 := ⟨Own.below h.o1 hb, Own.below h.o2 hb, h.ne⟩
theorem Pair.grow1 (h : Pair w B j1 v1 f1 j2 v2 f2) (hB : B ≤ w.heap.size) {o : Obj} (ho : w3.ownsRow B 22 1 v' (j1 + 1) (ucel f')) (hg : (w.alloc o).grownBy w3 v1.ownBlock) (hat : v'.ownBlock = v1.ownBlock ∨ v'.ownBlock = some (w.alloc o).heap.size) :
    Pair w3 B (j1 + 1) v' f' j2 v2 f2 ∧ Below B w w3 := by
  refine ⟨⟨ho, (h.o2.alloc o).kept hg (own_apart h.ne), fun x hx => ?_⟩, ((Below.refl B w).alloc hB o).grown hg (by simp; omega) (fun y hy => Own.ge h.o1 y hy)⟩
  rcases hat with e | e
  · exact h.ne x (by rw [← e]; exact hx)
  · intro e2
    have := own_lt h.o2 x e2
    rw [e] at hx
    simp at hx
    omega
theorem Pair.grow2 (h : Pair w B j1 v1 f1 j2 v2 f2) (hB : B ≤ w.heap.size) {o : Obj} (ho : w3.ownsRow B 22 1 v' (j2 + 1) (ucel f')) (hg : (w.alloc o).grownBy w3 v2.ownBlock) (hat : v'.ownBlock = v2.ownBlock ∨ v'.ownBlock = some (w.alloc o).heap.size) :
    Pair w3 B j1 v1 f1 (j2 + 1) v' f' ∧ Below B w w3 := by
  refine ⟨⟨(h.o1.alloc o).kept hg (own_apart' h.ne), ho, fun x hx e2 => ?_⟩, ((Below.refl B w).alloc hB o).grown hg (by simp; omega) (fun y hy => Own.ge h.o2 y hy)⟩
  rcases hat with e | e
  · exact h.ne x hx (by rw [← e]; exact e2)
  · have := own_lt h.o1 x hx
    rw [e] at e2
    simp at e2
    omega
end

theorem own_row {w : World} {B : Nat} {a : Option Addr} {c : Nat} {fs : List Nat} (h : w.ownsRow B 22 1 (.slice a fs.length c) fs.length (ucel fs)) (hne : 0 < fs.length) :
    ∃ x, a = some ⟨x, 0, none⟩ ∧ B ≤ x ∧ x < w.heap.size ∧ Row w x 0 fs := by
  have hlt := fun x => own_lt h x
  rcases h.2 with ⟨e, _⟩ | ⟨x, cap, cur, e, hB, hg, _, _, hcs, htake⟩
  · simp only [Value.slice.injEq] at e
    omega
  · simp only [Value.slice.injEq, true_and] at e
    obtain ⟨rfl, rfl⟩ := e
    refine ⟨x, rfl, hB, hlt x rfl, fun j hj => ?_⟩
    rw [Nat.zero_add, cell_of_row w x j _ _ _ hg]
    have h1 := ucel_get fs j hj
    rw [← htake, List.getElem?_take_of_lt (by omega)] at h1
    simpa using h1

theorem give_own (g pg pb n m r b B c : Nat) (a : Option Addr) (T : Nat → Bool) (M : Nat → Option (Nat → Nat)) (fs : List Nat) (w : World) (h : TT w g pg pb n m T r b M) (ho : w.ownsRow B 22 1 (.slice a fs.length c) fs.length (ucel fs))
    (h1 : pg < B) (h2 : pb < B) (hl : fs.length ≤ 65536) (hT : ∀ f ∈ fs, f < n ∧ T f = true) (hnd : fs.Nodup) :
    Calls Tryd.prog 33 #[.pointer (some ⟨g, 0, none⟩), .slice a fs.length c] w fun e w' => e = .returned (.tuple #[]) ∧ PL w' pg pb n m (freeAll T fs) ∧ Two pg pb w w' := by
  rcases Nat.eq_zero_or_pos fs.length with e | hp
  · have e2 : fs = [] := List.length_eq_zero_iff.1 e
    subst e2
    refine (give_nil g a c w).mono ?_
    rintro e w' ⟨rfl, rfl⟩
    exact ⟨rfl, by rw [free_nil]; exact h.pl, Two.refl _ _ _⟩
  · obtain ⟨x, rfl, hB, hx, hr⟩ := own_row ho hp
    exact give_any g pg pb n m r b x 0 c T M fs w h hr hl hx (by omega) (by omega) hT hnd

set_option maxRecDepth 100000 in
set_option maxHeartbeats 4000000 in
theorem take_any (g pg pb n m r b k : Nat) (T : Nat → Bool) (M : Nat → Option (Nat → Nat)) (fs : List Nat) (w : World) (h : TT w g pg pb n m T r b M) (hk : fs.length = k ∨ fs.length < k ∧ FR.NoLow (takeAll T fs) n 1) (hk3 : k ≤ 1000) (hT : Takes T n fs) (hM : ∀ f ∈ fs, M f = none) :
    Calls Tryd.prog 50 #[.pointer (some ⟨g, 0, none⟩), .int .i64 (k : Int)] w fun e w' =>
      (fs.length = k ∧ ∃ ao cap, e = .returned (.slice ao k cap) ∧ w'.ownsRow w.heap.size 22 1 (.slice ao k cap) k (ucel fs) ∧ PL w' pg pb n m (takeAll T fs) ∧ Two pg pb w w') ∨
      (fs.length < k ∧ e = .panicked (fault 24) ∧ PL w' pg pb n m T ∧ Two pg pb w w') := by
  obtain ⟨i0, hi, hz0, hz1, hz2⟩ := info_parts info_u64
  have H := W_hid h
  have hn2 := h.pl.n2
  have hfk : fs.length ≤ k := by rcases hk with h | h <;> omega
  replace hk := W_hid hk
  have hblk := h.tm.box.lt
  have hpl := W_hid h.pl.lts
  clear h
  go_enter Tryd.func50, Tryd.ntmps50
  go_wp2_with fail
  go_loopw [5, 6] (fun v1 v2 wr => ∃ j : Nat, j ≤ fs.length ∧ slen v2 = j ∧ Pair wr w.heap.size j v1 (fs.take j) j v2 (fs.take j) ∧ PL wr pg pb n m (takeAll T (fs.take j)) ∧ Two pg pb w wr) (fun _ v2 _ => k - slen v2)
  case atStart => exact ⟨0, by omega, rfl, ⟨World.ownsRow_nil _ _ _ _, World.ownsRow_nil _ _ _ _, fun x hx => by cases hx⟩, by rw [List.take_zero, take_nil]; exact H.out.pl, Two.refl _ _ _⟩
  case round =>
    obtain ⟨j, hj, hsl, hp, hP, t⟩ := hrel
    obtain ⟨a1, c1, rfl⟩ := Own.form hp.o1
    obtain ⟨a2, c2, rfl⟩ := Own.form hp.o2
    have hlen : (fs.take j).length = j := by rw [List.length_take]; omega
    clear hsl hlen
    have HT := W_hid (H.out.pool hP t)
    have HT0 := HT
    have c0 : wr.cell? ⟨g, 0, none⟩ = some (.pointer (some ⟨pg, 0, none⟩)) := HT.out.tm.box.cell rfl
    by_cases hlt : j < fs.length
    · have hj2 : j < fs.length := hlt
      have hjk : j < k := by omega
      have hlow := hT j hj2
      have hA := W_hid (fun w h => Alloc_any pg pb n m _ _ 1 fs[j] 0 w h (gets_one hlow))
      have hnext : Hid (FR.st (takeAll T (fs.take j)) fs[j] 1 true = takeAll T (fs.take (j + 1))) := by
        show _ = _
        rw [take_snoc', List.take_succ_eq_append_getElem hj2]
      have hf := W_hid (low_one hlow).1
      have hMf := W_hid (hM _ (List.getElem_mem hj2))
      have hcell : Hid (ucel (fs.take j) ++ [.int .u64 ((fs[j] : Nat) : Int)] = ucel (fs.take (j + 1))) := by
        show _ = _
        rw [List.take_succ_eq_append_getElem hj2, ucel_append]; rfl
      generalize hfe : fs[j] = f at *
      have hlt3 : (j : Int) < k := by omega
      replace hp := W_hid hp
      replace hP := W_hid hP
      replace t := W_hid t
      clear hfe hlow
      go_wp2_with fail
      refine (hA.out _ hP.out).mono ?_
      rintro e w2 ⟨rfl, hP2, t2⟩
      rw [hnext.out] at hP2
      have t' := W_hid (t.out.trans t2)
      have hp2 := hp.out.two t2 hpl.out.1 hpl.out.2
      have hP2' := W_hid hP2
      have own1 := W_hid hp2.o1
      replace hp2 := W_hid hp2
      clear hP2 t2
      go_wp2_with (first
        | (at_builtin; refine wpList_append_own_at _ rfl (.tmp 29) (.tmp 31) 41 rfl w.heap.size 22 i0 (.int .u64 0) 1 8 Tryd.underlying41 hi hz0 hz1 hz2 rfl (by decide) (.slice a1 j c1) j (ucel (fs.take j)) rfl (own1.out.alloc _) ⟨w2.heap.size, 0, none⟩ 1 1 [.int .u64 f] rfl rfl (cell_one_new _ _ _) (by intro u hu; simp at hu; subst hu; rfl) (by unfold maxLen; omega) (by omega) (by have := t'.out.size; simp; omega) ?_; intro v1' w3 hown1 hgrow1 _ hat1; obtain ⟨hp3, bel3⟩ := hp2.out.grow1 t'.out.size (by rw [← hcell.out]; exact hown1) hgrow1 hat1; have hpp3 := W_hid hp3; have hbb3 := W_hid bel3; have hpp3b := W_hid (Nat.le_trans t'.out.size bel3.size); have d2 : w3.cell? ⟨g, 2, none⟩ = some (.map (some b)) := ((H.out.tm.box.two t'.out H.out.g1 H.out.g2).below bel3 hblk).cell rfl; have hlk : (Instr.lookup 51 (.map (some b)) (.int .u64 (f : Int)) true).run Tryd.prog w3 = .ok (.tuple #[.agg (tw zero).toArray, .bool false]) w3 := look_none (((H.out.tm.mb.two t'.out H.out.b1 H.out.b2).heap (bel3.block b H.out.tm.mb.lt))) (by have := hf.out; omega) hMf.out; clear hown1 hgrow1 hat1 hp3 bel3 own1 hp2)
        | (refine wpList_store_b rfl 50 _ _ rfl w3.heap.size (tw zero) rfl rfl _ _ (blk_zero w3) (table_info _) (zero_len zero) (table_one _) ?_; intro w4 hX4 hb4 he4; have bel4 := hb4 _ _ (Nat.le_refl _) ((Below.refl w3.heap.size w3).alloc (Nat.le_refl _) _); have hpp4 := W_hid (hpp3.out.keep bel4); have hbb4 := W_hid (hbb3.out.trans (bel4.mono hpp3b.out)); have own2 := W_hid hpp4.out.o2; clear hX4 hb4 he4 bel4)
        | (at_builtin; refine wpList_append_own_at _ rfl (.tmp 44) (.tmp 46) 41 rfl w.heap.size 22 i0 (.int .u64 0) 1 8 Tryd.underlying41 hi hz0 hz1 hz2 rfl (by decide) (.slice a2 j c2) j (ucel (fs.take j)) rfl (own2.out.alloc _) ⟨w4.heap.size, 0, none⟩ 1 1 [.int .u64 f] rfl rfl (cell_one_new _ _ _) (by intro u hu; simp at hu; subst hu; rfl) (by unfold maxLen; omega) (by omega) (by have := t'.out.size; have := hbb4.out.size; simp; omega) ?_; intro v2' w5 hown2 hgrow2 _ hat2; obtain ⟨hp5, bel5⟩ := hpp4.out.grow2 (Nat.le_trans t'.out.size hbb4.out.size) (by rw [← hcell.out]; exact hown2) hgrow2 hat2; have hpp5 := W_hid hp5; have hbb5 := W_hid (hbb4.out.trans bel5); clear hown2 hgrow2 hat2 hp5 bel5 own2))
      have hs2 : slen v2' = j + 1 := by
        obtain ⟨a', c', e⟩ := Own.form hpp5.out.o2
        rw [e]; rfl
      exact ⟨⟨j + 1, by omega, hs2, hpp5.out, hP2'.out.below hbb5.out hpl.out.1 hpl.out.2, t'.out.low hbb5.out⟩, by rw [hs2]; show _ < k - j; omega⟩
    · obtain rfl : j = fs.length := by omega
      rw [List.take_length] at hp hP
      rcases hk.out with hk | ⟨hk, hno⟩
      · subst hk
        have hres := W_hid (show fs.length = fs.length ∧ ∃ ao cap, Ending.returned (.slice a2 fs.length c2) = .returned (.slice ao fs.length cap) ∧ wr.ownsRow w.heap.size 22 1 (.slice ao fs.length cap) fs.length (ucel fs) ∧ PL wr pg pb n m (takeAll T fs) ∧ Two pg pb w wr from ⟨rfl, a2, c2, rfl, hp.o2, hP, t⟩)
        clear hp hP t hT hM
        go_wp2
        go_ret
        exact hres.out.2
      · have hA := W_hid (fun w h => Alloc_any pg pb n m _ _ 1 0 24 w h (gets_none hno))
        have hlt3 : (fs.length : Int) < k := by omega
        have hfr := W_hid (take_free T n fs hT)
        have hfree := W_hid hT.free
        have hnd := W_hid hT.nodup
        replace hp := W_hid hp
        replace hP := W_hid hP
        replace t := W_hid t
        clear hno hT
        go_wp2_with fail
        refine (hA.out _ hP.out).mono ?_
        rintro e w2 ⟨rfl, hP2, t2⟩
        have t' := W_hid (t.out.trans t2)
        have HT2 := W_hid (HT0.out.pool hP2 t2)
        have hp2 := W_hid (hp.out.two t2 hpl.out.1 hpl.out.2)
        clear hP2 t2
        have hgive := W_hid (give_own g pg pb n m r b w.heap.size c1 a1 _ M fs w2 HT2.out hp2.out.o1 hpl.out.1 hpl.out.2 (by omega) (fun f hf => ⟨(hfree.out f hf).1, by unfold takeAll; rw [if_pos hf]⟩) hnd.out)
        go_wp2_with fail
        refine hgive.out.mono ?_
        rintro e w3 ⟨rfl, hP3, t3⟩
        rw [hfr.out] at hP3
        have hres := W_hid (show PL w3 pg pb n m T ∧ Two pg pb w w3 from ⟨hP3, t'.out.trans t3⟩)
        clear hP3 t3
        go_wp2
        exact ⟨rfl, .inr ⟨hk, rfl, hres.out⟩⟩
end Go.Proofs.YthiojnbnhagcgaaDoor
