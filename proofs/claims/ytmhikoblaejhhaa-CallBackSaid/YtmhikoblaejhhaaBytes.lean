/- Bytes in memory: what it says that a slice value reads as a list of bytes, and that a list of bytes is a number's, least byte first. -/
import Derived.Test.YtmhikoblaejhhaaRows
import Derived.WalkKit
import Derived.ProofKit
import Derived.OpenShut
import Derived.Outline
import Derived.WalkLawsBesides
import Derived.Deep.QuietTactic
import Derived.BigQuiet
import Derived.IntWalk
import Derived.Deep.RegionWith
import Derived.Laws.BitsAllLaws
import Derived.Laws.BytesArg
import Derived.Laws.CopyOwn
import Derived.Laws.AppendOwnNone
import Derived.Lib.AppendStr
namespace Go.Proofs.Ytmhikoblaejhhaa
open Go.ChangeShapes Go.WideShapes Go.ChangeAt Go.RowKit
set_option linter.unusedVariables false

/-- The cells of a list of bytes. -/
def cel (l : List UInt8) : List Value := l.map fun b => Value.int .u8 b.toNat

theorem cel_length (l : List UInt8) : (cel l).length = l.length := by simp [cel]
theorem cel_append (a b : List UInt8) : cel (a ++ b) = cel a ++ cel b := by simp [cel]
theorem cel_one (l : List UInt8) : ∀ u ∈ cel l, u.oneCell' = true := by
  intro u hu
  obtain ⟨_, _, rfl⟩ := List.mem_map.1 hu
  rfl
theorem cel_get (l : List UInt8) (j : Nat) : (cel l)[j]? = (l[j]?).map fun b => Value.int .u8 b.toNat := by simp [cel]
theorem cel_inj {a b : List UInt8} (h : cel a = cel b) : a = b := by
  induction a generalizing b with
  | nil => cases b with
    | nil => rfl
    | cons y b => simp [cel] at h
  | cons x a ih => cases b with
    | nil => simp [cel] at h
    | cons y b =>
      simp only [cel, List.map_cons, List.cons.injEq] at h
      have h1 : x = y := by
        have := h.1
        simp only [Value.int.injEq, true_and] at this
        exact UInt8.toNat_inj.1 (by omega)
      rw [h1, ih h.2]

/-- A slice value of length n and capacity cap at address ao reads as the bytes l in world w. -/
def BS (w : World) (ao : Option Addr) (n cap : Nat) (l : List UInt8) : Prop :=
  l.length = n ∧ n ≤ cap ∧ cap ≤ maxLen ∧ (ao = none → cap = 0) ∧ ∀ a, ao = some a → ∀ j u, (cel l)[j]? = some u → w.cell? (a.add j) = some u

theorem BS.below {w w' : World} {ao : Option Addr} {n cap : Nat} {l : List UInt8} (h : BS w ao n cap l) {B : Nat} (hb : Below B w w') (hB : w.heap.size ≤ B) : BS w' ao n cap l := by
  refine ⟨h.1, h.2.1, h.2.2.1, h.2.2.2.1, fun a ha j u hu => ?_⟩
  have hc := h.2.2.2.2 a ha j u hu
  rw [hb.cell (Nat.lt_of_lt_of_le (World.block_lt_of_cell? w _ hc) hB)]
  exact hc

theorem BS.nil (w : World) : BS w none 0 0 [] := ⟨rfl, Nat.le_refl _, Nat.zero_le _, fun _ => rfl, fun _ h => by cases h⟩

/-- What is owned reads so. -/
theorem BS_own {w : World} {base e : Nat} {g n cap : Nat} {l : List UInt8} (h : w.ownsRow base e 1 (.slice (some ⟨g, 0, none⟩) n cap) n (cel l)) : BS w (some ⟨g, 0, none⟩) n cap l := by
  have hl : l.length = n := by have := h.1; rw [cel_length] at this; omega
  rcases h.2 with ⟨h', _⟩ | ⟨g', cap', cur, h', hb, hg, hnc, hcm, _⟩
  · simp at h'
  · simp only [Value.slice.injEq, Option.some.injEq, Addr.mk.injEq, and_true, true_and] at h'
    obtain ⟨rfl, rfl⟩ := h'
    refine ⟨hl, hnc, hcm, (fun h => by cases h), fun a ha j u hu => ?_⟩
    obtain rfl := Option.some.inj ha
    exact h.cells (g := g) rfl j u hu

/-- A cut of what reads so. -/
theorem BS.cut {w : World} {ao : Option Addr} {n cap : Nat} {l : List UInt8} (h : BS w ao n cap l) {lo hi : Nat} (h1 : lo ≤ hi) (h2 : hi ≤ n) :
    BS w (if cap = lo then ao else ao.map (·.add (lo * 1))) (hi - lo) (cap - lo) ((l.take hi).drop lo) := by
  obtain ⟨hl, hnc, hcm, hnone, hc⟩ := h
  refine ⟨by simp; omega, by omega, by omega, fun hn => ?_, fun a ha j u hu => ?_⟩
  · split at hn
    · have := hnone hn; omega
    · cases ao with
      | none => have := hnone rfl; omega
      | some x => simp at hn
  · have hj : j < hi - lo := by
      have := (List.getElem?_eq_some_iff.1 hu).1
      rw [cel_length] at this; simp at this; omega
    rw [if_neg (by omega)] at ha
    obtain ⟨x, rfl, rfl⟩ := Option.map_eq_some_iff.1 ha
    show w.cell? ((x.add (lo * 1)).add j) = some u
    rw [Addr.add_add, Nat.mul_one]
    refine hc x rfl (lo + j) u ?_
    rw [cel_get] at hu ⊢
    rw [← hu, List.getElem?_drop, List.getElem?_take, if_pos (by omega)]

/-- The law of a cut 'x[lo:hi]' for the walk, the address left open. -/
theorem wpList_cut {P : Program} {w : World} {ops : Array Oper} {rest : List Oper} {o : Oper} {a : Act} {Q : Exit → Act → World → Prop} (hg : o.guard = none) (x lo hi : Operand) (t e : TypeId) (hop : o.op = Op.slice t x (some lo) (some hi) none)
    (ht : P.underlying t = some (.slice (P.elem t))) (hs : (sizeOf (P.elem t)).run P w = .ok 1 w)
    (ao : Option Addr) (n cap : Nat) (l : List UInt8) (hx : a.eval x = .slice ao n cap) (hb : BS w ao n cap l) (kl kh : IntKind) (L H : Nat) (hl : a.eval lo = .int kl L) (hh : a.eval hi = .int kh H) (h1 : L ≤ H) (h2 : H ≤ n)
    (hK : ∀ ao', BS w ao' (H - L) (cap - L) ((l.take H).drop L) → wpList P ops Q rest (a.put o.dst (.slice ao' (H - L) (cap - L))) w) :
    wpList P ops Q (o :: rest) a w := by
  refine wpList_plain hg fun K hK' => ?_
  have hcap := hb.2.1
  have hrun := run_slice_lh (P := P) w t ao n cap ht kl kh (L : Int) (H : Int) (by omega) (by omega) (by omega)
  rw [hs] at hrun
  simp only [Result.andThen, sliced, Int.toNat_natCast] at hrun
  have hrun2 : (Instr.sliceAt t (.slice ao n cap) (some (.int kl (L : Int))) (some (.int kh (H : Int))) none).run P w = .ok (.slice (if cap = L then ao else ao.map (·.add (L * 1))) (H - L) (cap - L)) w := by
    rw [run_sliceAt_slice (P := P) w t _ _ _ _ ht]; exact hrun
  unfold Oper.wp
  simp only [execOp, hop, hx, hl, hh, Option.map_some, Option.map_none, hrun2, Sem.run_bind, Sem.run_pure, Result.andThen, Oper.upon]
  exact hK' _ _ (hK _ (by simpa using hb.cut h1 h2))

/-- Of a slice's bytes to a string. -/
def strOf (l : List UInt8) : ByteArray := ⟨l.toArray⟩
theorem strOf_size (l : List UInt8) : (strOf l).size = l.length := by simp [strOf, ByteArray.size]
theorem strOf_list (l : List UInt8) : (strOf l).data.toList = l := by simp [strOf]
theorem strOf_of (s : ByteArray) : strOf s.data.toList = s := by simp [strOf]
theorem strCells_cel (s : ByteArray) : Lib.strCells s = cel s.data.toList := rfl

theorem strOfNums_cel (l : List UInt8) : strOfNums (l.map fun b => ((b.toNat : Nat) : Int)) = strOf l := by
  simp only [strOfNums, strOf, List.map_map]
  congr 2
  refine (List.map_congr_left fun b _ => ?_).trans (List.map_id l)
  simp

theorem run_conv {P : Program} {w : World} {ao : Option Addr} {n cap : Nat} {l : List UInt8} (src e : TypeId) (hs : P.underlying src = some (.slice e)) (he : P.underlying e = some (.int .u8)) (dst : TypeId) (hd : P.underlying dst = some .string) (h : BS w ao n cap l) :
    (convert src dst (.slice ao n cap)).run P w = .ok (.string (strOf l)) w := by
  obtain ⟨hl, hnc, hcm, hnone, hc⟩ := h
  cases ao with
  | none =>
    have h0 := hnone rfl
    have : l = [] := List.eq_nil_of_length_eq_zero (by omega)
    subst this
    rw [run_convert_bytes_nil w src e hs he n cap dst hd]
    rfl
  | some x =>
    have hl2 : (loadCells x n).run P w = .ok (cel l).toArray w := by
      have := run_loadCells_list (P := P) w x (cel l) (fun j v hj => hc x rfl j v hj)
      rw [cel_length, hl] at this
      exact this
    have hl3 : (loadCells x n).run P w = .ok ((l.map fun b => ((b.toNat : Nat) : Int)).map (Value.int .u8)).toArray w := by
      rw [hl2]; simp [cel, Function.comp_def]
    rw [run_convert_bytes_string w src dst e _ n cap hs he hd, run_bytesToString w x n cap _ hl3, foldl_push_bytes, ← strOfNums_cel]
    simp [strOfNums, ByteArray.empty, ByteArray.emptyWithCapacity]
    rfl

/-! Numbers of bytes, the least first. -/
def le : Nat → Nat → List UInt8
  | 0, _ => []
  | m + 1, k => UInt8.ofNat (k % 256) :: le m (k / 256)
def num : List UInt8 → Nat
  | [] => 0
  | b :: r => b.toNat + 256 * num r

theorem le_length : ∀ m k, (le m k).length = m
  | 0, _ => rfl
  | m + 1, k => by simp [le, le_length m]
theorem num_le : ∀ m k, num (le m k) = k % 256 ^ m
  | 0, k => by simp [le, num, Nat.mod_one]
  | m + 1, k => by
    simp only [le, num, num_le m]
    rw [Nat.pow_succ, Nat.mul_comm (256 ^ m) 256, Nat.mod_mul]
    simp
theorem num_lt : ∀ l : List UInt8, num l < 256 ^ l.length
  | [] => by simp [num]
  | b :: r => by
    have := num_lt r
    have hb := b.toNat_lt
    simp only [num, List.length_cons, Nat.pow_succ]
    omega
theorem le_snoc : ∀ m k, le (m + 1) k = le m k ++ [UInt8.ofNat (k / 256 ^ m % 256)]
  | 0, k => by simp [le]
  | m + 1, k => by
    have ih := le_snoc m (k / 256)
    rw [le, ih, Nat.div_div_eq_div_mul, ← Nat.pow_succ']
    rfl
theorem le_take : ∀ i m k, i ≤ m → (le m k).take i = le i k
  | 0, _, _, _ => by simp [le]
  | i + 1, 0, _, h => by omega
  | i + 1, m + 1, k, h => by simp only [le, List.take_succ_cons]; rw [le_take i m _ (by omega)]
theorem num_append : ∀ a b : List UInt8, num (a ++ b) = num a + 256 ^ a.length * num b
  | [], b => by simp [num]
  | x :: a, b => by
    simp only [List.cons_append, num, num_append a b, List.length_cons, Nat.pow_succ]
    rw [Nat.mul_add, Nat.mul_comm (256 ^ a.length) 256, Nat.mul_assoc]
    omega
theorem num_zeros : ∀ n, num (List.replicate n 0) = 0
  | 0 => rfl
  | n + 1 => by simp [List.replicate_succ, num, num_zeros n]
theorem num_le_eq (m k : Nat) (h : k < 256 ^ m) : num (le m k) = k := by rw [num_le, Nat.mod_eq_of_lt h]

end Go.Proofs.Ytmhikoblaejhhaa
