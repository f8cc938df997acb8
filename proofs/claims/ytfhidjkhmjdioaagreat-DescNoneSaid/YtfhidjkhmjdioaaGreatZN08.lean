/- The law DescNone of layer 13 (package haywardlaw13): for every input it returns true, and its arguments read as before. No further condition. -/
import Derived.Test.YtfhidjkhmjdioaaGreatZN07
import Derived.Test.YtfhidjkhmjdioaaGreatZN03
import Derived.Test.YtfhidjkhmjdioaaGreatZN02
import Derived.ShutString
import Derived.ChangeOld

namespace Go.Proofs.YtfhidjkhmjdioaaGreat
open Go.ChangeShapes Go.WideShapes Go.ChangeAt Go.RowKit Go.Maps
set_option linter.unusedVariables false
set_option linter.unusedSimpArgs false
set_option maxRecDepth 100000
namespace DC
open IS (I64 upd)
open IN (Keeps lt_of_some)
def VT (k : Nat) (o : Obj) : Prop := (∃ c ty s, o = .cells c ty s ∧ (ty = 86 ∨ ty = 155 ∨ ty = 94 ∨ ty = 135 ∨ ty = 111 ∨ ty = 101)) ∨ ∃ es c, o = .map es c
def DS (K : Cn) (q : Nat) (S : Sm) (D : NT.Ds) (P : Ps) (O : Ou) (w : World) : Prop := ∃ A, DW K q A S D P O w
def DO (K : Cn) (q : Nat) (S : Sm) (D : NT.Ds) (P : Ps) (O : Ou) (w w' : World) : Prop := DS K q S D P O w' ∧ Keeps K.base VT w w'
section
variable {K : Cn} {q : Nat} {A : Am} {S : Sm} {D : NT.Ds} {P : Ps} {O : Ou} {w w' : World} {n : Nat}
theorem VT_of (h : Keeps K.base (UT K A) w w') : Keeps K.base VT w w' := NT.keeps_wide h fun k o _ hT => by
  rcases hT with (h1 | ⟨n, g, m, -, h1 | h1⟩) | ⟨c, s, rfl⟩ | ⟨c, s, rfl⟩ | ⟨c, s, rfl⟩ | ⟨-, es, c, rfl⟩
  · rcases h1 with ⟨c, s, rfl⟩ | ⟨c, s, rfl⟩ | ⟨-, es, c, rfl⟩
    · exact .inl ⟨_, _, _, rfl, .inl rfl⟩
    · exact .inl ⟨_, _, _, rfl, .inr (.inl rfl)⟩
    · exact .inr ⟨_, _, rfl⟩
  · obtain ⟨-, c, s, rfl⟩ := h1
    exact .inl ⟨_, _, _, rfl, .inr (.inr (.inl rfl))⟩
  · obtain ⟨-, es, c, rfl⟩ := h1
    exact .inr ⟨_, _, rfl⟩
  · exact .inl ⟨_, _, _, rfl, .inr (.inr (.inr (.inl rfl)))⟩
  · exact .inl ⟨_, _, _, rfl, .inr (.inr (.inr (.inr (.inl rfl))))⟩
  · exact .inl ⟨_, _, _, rfl, .inr (.inr (.inr (.inr (.inr rfl))))⟩
  · exact .inr ⟨_, _, rfl⟩
theorem do_of {S' : Sm} {D' : NT.Ds} {P' : Ps} {O' : Ou} (h : DQ K q A S' D' P' O' w w') : DO K (q + 2) S' D' P' O' w w' := ⟨h.1, VT_of h.2⟩
theorem DS.keep (h : DS K q S D P O w) (hb : Below w.heap.size w w') : DS K q S D P O w' := by
  obtain ⟨A, h⟩ := h
  exact ⟨A, h.keep hb⟩
theorem DW.lt (h : DW K q A S D P O w) : q < 60000 := by
  obtain ⟨M, β, -, h⟩ := h
  exact h.cap.2.2.2.2.2.2.1
theorem DS.more (h : DS K q S D P O w) {q' : Nat} (hq : q ≤ q') (hq' : q' < 60000) : DS K q' S D P O w := by
  obtain ⟨A, h⟩ := h
  exact ⟨A, h.more hq hq'⟩
theorem DS.low (h : DS K q S D P O w) : K.base ≤ w.heap.size := by
  obtain ⟨A, M, β, -, h⟩ := h
  exact h.low
theorem DS.di (h : DS K q S D P O w) : DI K.files K.opens S P O [] := by
  obtain ⟨A, M, β, -, h⟩ := h
  exact h.di
theorem DS.ti (h : DS K q S D P O w) : NT.TI K.I q NT.e0 S D := by
  obtain ⟨A, M, β, -, h⟩ := h
  exact h.dp.tw.ti
theorem add_s (pid : Int) (w : World) (h : DS K q S D P O w) (hp : I64 pid) (hq : q < 59998) :
    Calls Tryz.prog 17 #[.pointer (some ⟨K.g, 0, none⟩), .int .i64 pid] w fun e w' => e = .returned (.int .i64 (addR K.files P pid).1) ∧ DO K (q + 2) S D (addR K.files P pid).2 O w w' := by
  obtain ⟨A, h⟩ := h
  exact (Add_all pid w h hp hq).mono fun e w' hh => ⟨hh.1, do_of hh.2⟩
theorem open_s (pid : Int) (p : ByteArray) (fl : Int) (w : World) (h : DS K q S D P O w) (hp : I64 pid) (hpl : p.size ≤ maxLen) (hfl : I64 fl) (hq : q < 59998) :
    Calls Tryz.prog 26 #[.pointer (some ⟨K.g, 0, none⟩), .int .i64 pid, .string p, .int .i64 fl] w fun e w' => e = .returned (.tuple #[.int .i64 (opnR K.I K.files K.opens S D P O pid p fl).1.1, .int .i64 (opnR K.I K.files K.opens S D P O pid p fl).1.2]) ∧ DO K (q + 2) (opnR K.I K.files K.opens S D P O pid p fl).2.1 (opnR K.I K.files K.opens S D P O pid p fl).2.2.1 (opnR K.I K.files K.opens S D P O pid p fl).2.2.2.1 (opnR K.I K.files K.opens S D P O pid p fl).2.2.2.2 w w' := by
  obtain ⟨A, h⟩ := h
  exact (Open_all pid p fl w h hp hpl hfl hq).mono fun e w' hh => ⟨hh.1, do_of hh.2⟩
theorem dup_s (pid fd : Int) (w : World) (h : DS K q S D P O w) (hp : I64 pid) (hq : q < 59998) :
    Calls Tryz.prog 32 #[.pointer (some ⟨K.g, 0, none⟩), .int .i64 pid, .int .i64 fd] w fun e w' => e = .returned (.tuple #[.int .i64 (dupR K.files P O pid fd).1.1, .int .i64 (dupR K.files P O pid fd).1.2]) ∧ DO K (q + 2) S D (dupR K.files P O pid fd).2.1 (dupR K.files P O pid fd).2.2 w w' := by
  obtain ⟨A, h⟩ := h
  exact (Dup_all pid fd w h hp hq).mono fun e w' hh => ⟨hh.1, do_of hh.2⟩
theorem read_s (pid fd n : Int) (w : World) (h : DS K q S D P O w) (hp : I64 pid) (hn : I64 n) (hq : q < 59998) :
    Calls Tryz.prog 30 #[.pointer (some ⟨K.g, 0, none⟩), .int .i64 pid, .int .i64 fd, .int .i64 n] w fun e w' => e = .returned (.tuple #[.string (rdR S P O pid fd n).1.1, .int .i64 (rdR S P O pid fd n).1.2]) ∧ DO K (q + 2) S D P (rdR S P O pid fd n).2 w w' := by
  obtain ⟨A, h⟩ := h
  exact (Read_all pid fd n w h hp hn hq).mono fun e w' hh => ⟨hh.1, do_of hh.2⟩
theorem write_s (pid fd : Int) (s : ByteArray) (w : World) (h : DS K q S D P O w) (hp : I64 pid) (hs : s.size ≤ maxLen) (hq : q < 59998) :
    Calls Tryz.prog 27 #[.pointer (some ⟨K.g, 0, none⟩), .int .i64 pid, .int .i64 fd, .string s] w fun e w' => e = .returned (.tuple #[.int .i64 (wriR K.I K.B S P O pid fd s).1.1, .int .i64 (wriR K.I K.B S P O pid fd s).1.2]) ∧ DO K (q + 2) (wriR K.I K.B S P O pid fd s).2.1 D P (wriR K.I K.B S P O pid fd s).2.2 w w' := by
  obtain ⟨A, h⟩ := h
  exact (Write_all pid fd s w h hp hs hq).mono fun e w' hh => ⟨hh.1, do_of hh.2⟩
theorem seek_s (pid fd n wh : Int) (w : World) (h : DS K q S D P O w) (hp : I64 pid) (hn : I64 n) (hq : q < 59998) :
    Calls Tryz.prog 29 #[.pointer (some ⟨K.g, 0, none⟩), .int .i64 pid, .int .i64 fd, .int .i64 n, .int .i64 wh] w fun e w' => e = .returned (.tuple #[.int .i64 (skR S P O pid fd n wh).1.1, .int .i64 (skR S P O pid fd n wh).1.2]) ∧ DO K (q + 2) S D P (skR S P O pid fd n wh).2 w w' := by
  obtain ⟨A, h⟩ := h
  exact (Seek_all pid fd n wh w h hp hn hq).mono fun e w' hh => ⟨hh.1, do_of hh.2⟩
end
end DC
namespace DC
def sF : ByteArray := ⟨#[102]⟩
def O0 : Ou := fun _ => none
def P1 : Ps := [(1, [none, none, none, none])]
def P2 : Ps := [(1, [some 0, none, none, none])]
def P3 : Ps := [(1, [some 0, some 0, none, none])]
def S1 : Sm := IN.upd NT.Sn 2 (some (IN.newNd 1))
def x1 : IN.Nd := ⟨1, 1, 1, 0, []⟩
def S2 : Sm := IN.upd NT.Sn 2 (some x1)
def D1 : NT.Ds := NT.mkD NT.D0 1 ⟨#[102]⟩ 2 1
def oF (off refs : Int) : Of := ⟨2, off, 7, refs⟩
theorem pF0 : PM.perr sF = 0 := by decide
theorem pF1 : PM.pN sF = [⟨#[102]⟩] := by decide
theorem vF : NT.vacant NT.D0 1 sF = .ok 1 := by unfold NT.vacant; rw [pF1]; rfl
theorem fF : NT.findR NT.D0 sF = .error 11 := by unfold NT.findR; rw [if_pos pF0, pF1]; rfl
theorem add1 : addR 4 [] 1 = (0, P1) := by unfold addR vacP; rw [if_pos (by decide)]; rfl
theorem low2 : IN.Low NT.Sn 2 := ⟨by decide, rfl, fun m h1 h2 => by
  obtain rfl : m = 1 := by omega
  simp [NT.Sn, IN.upd]⟩
theorem mk1 : NT.mk 8 NT.Sn NT.D0 sF 1 = ((2, 0), S1, D1) := by
  unfold NT.mk
  rw [if_pos (.inl rfl), if_neg (fun e => e pF0), vF]
  have hr : IN.mkR 8 NT.Sn 1 = 0 := by
    unfold IN.mkR
    rw [if_pos (.inl rfl), if_pos (by decide)]
  simp only [hr, ne_eq, not_true_eq_false, if_false]
  rw [NT.lowN_eq low2]
  have hl : NT.last (PM.pN sF) = ⟨#[102]⟩ := by rw [pF1]; rfl
  rw [hl]
  rfl
theorem b74 : (bits .and .i64 7 4 != 0) = true := by decide
theorem rea1 : reaR 8 NT.Sn NT.D0 sF 7 = ((2, 0), S1, D1) := by
  unfold reaR
  rw [fF]
  simp only
  rw [if_pos ⟨trivial, b74⟩, mk1]
theorem op1 : IN.opS S1 2 = S2 := by
  unfold IN.opS S1
  rw [IN.upd_at]
  simp only
  rw [IN.upd_upd]
  rfl
theorem opn1 : opnR 8 4 6 NT.Sn NT.D0 P1 O0 1 sF 7 = ((0, 0), S2, D1, P2, updO O0 0 (some (oF 0 1))) := by
  unfold opnR
  have h1 : lk P1 1 = some [none, none, none, none] := by decide
  rw [h1]
  simp only
  have h2 : flg 7 = true := by decide
  rw [h2, if_neg (by simp), if_pos (by decide), if_pos (by decide), rea1]
  simp only
  rw [if_pos trivial, op1]
  rfl
theorem lk2 : lk P2 1 = some [some 0, none, none, none] := by decide
theorem lk3 : lk P3 1 = some [some 0, some 0, none, none] := by decide
theorem file1 {P : Ps} {O : Ou} {L : Ls} {fd need : Int} {k : Nat} {o : Of} (hl : lk P 1 = some L) (hg : getL L fd = some k) (ho : O k = some o) (hb : (bits .and .i64 o.flags need == need) = true) : fileR P O 1 fd need = .ok k := by
  unfold fileR
  rw [hl]
  simp only [hg, ho, hb, if_true]
theorem dup1 (O : Ou) (off r : Int) (ho : O 0 = some (oF off r)) : dupR 4 P2 O 1 0 = ((1, 0), P3, updO O 0 (some (oF off (r + 1)))) := by
  unfold dupR
  rw [file1 (k := 0) (o := oF off r) lk2 (by decide) ho (by show (bits .and .i64 7 0 == 0) = true; decide)]
  show (if fx ((lk P2 1).getD []) < 4 then _ else _) = _
  rw [lk2, ho]
  rw [if_pos (by decide)]
  rfl
def xW (data : ByteArray) : IN.Nd := IN.wNd x1 0 data
theorem tot_nil {S : Sm} (h : ∀ n x, S n = some x → x.l = []) (I : Nat) : IN.tot S I = 0 := by
  unfold IN.tot
  have : ((IN.lst S I).map fun x => EM.cnt x.2.l) = (IN.lst S I).map fun _ => 0 := List.map_congr_left fun x hx => by
    rw [h _ _ (IN.mem_lst.1 hx).2.2]; rfl
  rw [this, List.map_const', List.sum_replicate_nat, Nat.mul_zero]
theorem S2_at {n : Int} {x : IN.Nd} (h : S2 n = some x) : x.l = [] := by
  unfold S2 IN.upd at h
  split at h
  · cases h; rfl
  · obtain ⟨-, rfl⟩ := NT.Sn_at h
    rfl
theorem wr_ok (data : ByteArray) (h : data.size ≤ 1048576) : EM.ok 0 (EM.wr [] 0 data) = true ∧ ends (EM.wr [] 0 data) ≤ data.size := by
  have := IN.ends_wr (l := []) (f := 0) (d := data) (s := 0) rfl (Int.le_refl _) (by omega) (Int.le_refl _) (Int.le_refl _)
  refine ⟨this.1, ?_⟩
  have h2 := this.2
  split at h2 <;> omega
theorem wrE1 (data : ByteArray) : wrE [] 0 data = if data.size ≤ 1048576 then 0 else 28 := by
  unfold wrE
  rw [if_pos ⟨rfl, Int.le_refl _⟩]
  by_cases h : data.size ≤ 1048576
  · rw [if_pos h, if_pos (by omega)]
  · rw [if_neg h, if_neg (by omega)]
theorem cnt_wr (data : ByteArray) (h : data.size ≤ 1048576) : EM.cnt (EM.wr [] 0 data) ≤ data.size := by
  have h1 := wr_ok data h
  have := IN.cnt_ends h1.1
  omega
theorem wrErr1 (B : Nat) (data : ByteArray) (hB : data.size ≤ 1048576 → data.size ≤ B) : IN.wrErr 8 B S2 2 0 data = if data.size ≤ 1048576 then 0 else 28 := by
  have e : wrE x1.l 0 data = if data.size ≤ 1048576 then 0 else 28 := wrE1 data
  unfold IN.wrErr IN.askR S2
  rw [IN.upd_at]
  show (if x1.kind = 1 then (if wrE x1.l 0 data = 0 then (if IN.tot (IN.upd NT.Sn 2 (some x1)) 8 + EM.cnt (EM.wr [] 0 data) ≤ B + EM.cnt [] then (0 : Int) else 21) else wrE x1.l 0 data) else 14) = _
  rw [if_pos (show x1.kind = 1 from rfl)]
  by_cases h : data.size ≤ 1048576
  · rw [if_pos h] at e ⊢
    rw [if_pos e, if_pos]
    have h2 := cnt_wr data h
    have h3 := hB h
    have h4 := tot_nil (S := IN.upd NT.Sn 2 (some x1)) (fun n x hx => S2_at hx) 8
    rw [h4]
    omega
  · rw [if_neg h] at e ⊢
    rw [if_neg (by rw [e]; decide), e]
theorem wrS1 (B : Nat) (data : ByteArray) (h : data.size ≤ 1048576) (hB : data.size ≤ B) : IN.wrS 8 B S2 2 0 data = IN.upd NT.Sn 2 (some (xW data)) := by
  unfold IN.wrS S2
  rw [IN.upd_at]
  simp only
  rw [if_pos, IN.upd_upd]
  · rfl
  · refine ⟨rfl, by show wrE [] 0 data = 0; rw [wrE1, if_pos h], ?_⟩
    have h2 := cnt_wr data h
    have h4 := tot_nil (S := IN.upd NT.Sn 2 (some x1)) (fun n x hx => S2_at hx) 8
    show IN.tot (IN.upd NT.Sn 2 (some x1)) 8 + EM.cnt (EM.wr [] 0 data) ≤ B + EM.cnt []
    rw [h4]
    omega
def S3 (data : ByteArray) : Sm := IN.upd NT.Sn 2 (some (xW data))
theorem wrAt0 (off r : Int) (x : IN.Nd) : wrAt (oF off r) x = off := by
  unfold wrAt
  have : (bits .and .i64 (oF off r).flags 32 == 32) = false := by show (bits .and .i64 7 32 == 32) = false; decide
  rw [this]
  rfl
theorem S2_2 : S2 2 = some x1 := IN.upd_at _ _ _
theorem wri1 {P : Ps} {O : Ou} {L : Ls} (B : Nat) (data : ByteArray) (r : Int) (h : data.size ≤ 1048576) (hB : data.size ≤ B) (hl : lk P 1 = some L) (hg : getL L 0 = some 0) (ho : O 0 = some (oF 0 r)) : wriR 8 B S2 P O 1 0 data = (((data.size : Int), 0), S3 data, updO O 0 (some (oF data.size r))) := by
  unfold wriR
  rw [file1 hl hg ho (by show (bits .and .i64 7 2 == 2) = true; decide)]
  have e2 : (oF 0 r).ino = 2 := rfl
  simp only [ho, e2, S2_2, wrAt0]
  rw [wrErr1 B data (fun _ => hB), if_pos h, if_pos rfl, wrS1 B data h hB]
  unfold oF
  simp [S3]
theorem xW_size (data : ByteArray) : (xW data).size = data.size := by
  show (if data.size = 0 then (0 : Int) else max 0 (0 + (data.size : Int))) = data.size
  split <;> omega
theorem rd_piece (data : ByteArray) (h : data.size ≤ 1048576) (p m : Nat) (hp : p + m ≤ data.size) : EM.rd (EM.wr [] 0 data) p m = (data.data.toList.drop p).take m := by
  have h1 := EM.rd_wr (l := []) (f := 0) (d := data) rfl (Int.le_refl _) (by omega)
  obtain ⟨r, hr⟩ : ∃ r, data.size = p + (m + r) := ⟨data.size - p - m, by omega⟩
  rw [hr, EM.rd_two, EM.rd_two, Int.zero_add] at h1
  have e1 : (EM.rd (EM.wr [] 0 data) 0 p).length = p := EM.rd_length _ _ _
  have e2 : (EM.rd (EM.wr [] 0 data) p m).length = m := EM.rd_length _ _ _
  rw [← h1, List.drop_left' e1, List.take_left' e2]
def pce (data : ByteArray) (p m : Nat) : ByteArray := strOf ((data.data.toList.drop p).take m)
theorem rdE1 (data : ByteArray) (h : data.size ≤ 1048576) (p n : Nat) : rdE (xW data).l (xW data).size (p : Int) (n : Int) = 0 := by
  unfold rdE
  have := wr_ok data h
  rw [xW_size, if_pos ⟨this.1, by omega, by omega, by omega, by omega, this.2⟩]
theorem rdV1 (data : ByteArray) (h : data.size ≤ 1048576) (p n : Nat) (hp : p ≤ data.size) : strOf (rdV (xW data).l (xW data).size (p : Int) (n : Int)) = pce data p (min n (data.size - p)) := by
  unfold rdV pce
  rw [if_pos (rdE1 data h p n), xW_size]
  congr 1
  have e : (min (n : Int) ((data.size : Int) - (p : Int))).toNat = min n (data.size - p) := by omega
  rw [e]
  exact rd_piece data h p _ (by omega)
theorem pce_size (data : ByteArray) (p m : Nat) (h : p + m ≤ data.size) : (pce data p m).size = m := by
  unfold pce
  rw [strOf_size, List.length_take, List.length_drop]
  have : data.data.toList.length = data.size := Array.length_toList
  omega
theorem S3_2 (data : ByteArray) : S3 data 2 = some (xW data) := IN.upd_at _ _ _
theorem rd1 {P : Ps} {O : Ou} {L : Ls} {fd : Int} {k : Nat} {S : Sm} (data : ByteArray) (h : data.size ≤ 1048576) (p n : Nat) (o : Of) (x : IN.Nd) (hp : p ≤ data.size) (hl : lk P 1 = some L) (hg : getL L fd = some k) (ho : O k = some o) (hoff : o.off = p) (hb : (bits .and .i64 o.flags 1 == 1) = true) (hS : S o.ino = some x) (hx1 : x.l = (xW data).l) (hx2 : x.size = (xW data).size) :
    rdR S P O 1 fd (n : Int) = ((pce data p (min n (data.size - p)), 0), updO O k (some { o with off := ((p + min n (data.size - p) : Nat) : Int) })) := by
  unfold rdR
  rw [file1 hl hg ho hb]
  simp only [ho, hS, hoff, hx1, hx2]
  rw [if_pos (rdE1 data h p n), rdV1 data h p n hp, pce_size data p _ (by omega)]
  simp
theorem sk1 {P : Ps} {O : Ou} {L : Ls} {fd : Int} {k : Nat} {S : Sm} (o : Of) (x : IN.Nd) (by_ wh at_ : Int) (hl : lk P 1 = some L) (hg : getL L fd = some k) (ho : O k = some o) (hS : S o.ino = some x) (ha : skAt o x wh = some at_) (h1 : -at_ ≤ by_) (h2 : by_ ≤ 1048576 - at_) :
    skR S P O 1 fd by_ wh = ((at_ + by_, 0), updO O k (some { o with off := at_ + by_ })) := by
  unfold skR
  rw [file1 hl hg ho (by
    have : bits .and .i64 o.flags 0 = 0 := by simp [bits]; rfl
    rw [this]; rfl)]
  simp only [ho, hS, ha]
  rw [if_neg (by omega)]
end DC
end Go.Proofs.YtfhidjkhmjdioaaGreat

namespace Go.Proofs.YtfhidjkhmjdioaaGreat
open Go.ChangeShapes Go.WideShapes Go.ChangeAt Go.RowKit
open Go.ChangeMaps (open_string shut_string)
set_option linter.unusedVariables false
set_option linter.unusedSimpArgs false
namespace DC
open IS (I64)
open IN (Keeps cap7)
theorem res_caps13 {fn : Func} {r : Tmp} (hres : fn.results = #[.cell r 25]) (tmps : Array Value) (w : World) {g : Nat} {a b c d e f h : Int} (hr : tmps.getD r undef = .pointer (some ⟨g, 0, none⟩)) (hB : Blk w g 25 [.int .i64 a, .int .i64 b, .int .i64 c, .int .i64 d, .int .i64 e, .int .i64 f, .int .i64 h]) :
    (results fn tmps).run Tryz.prog w = .ok (cap7 a b c d e f h) w := by
  have h0 := hB.cell (j := 0) rfl
  have h1 := hB.cell (j := 1) rfl
  have h2 := hB.cell (j := 2) rfl
  have h3 := hB.cell (j := 3) rfl
  have h4 := hB.cell (j := 4) rfl
  have h5 := hB.cell (j := 5) rfl
  have h6 := hB.cell (j := 6) rfl
  rw [Array.getD_eq_getD_getElem?] at hr
  simp [results, hres, go_sem, hr, h0, h1, h2, h3, h4, h5, h6, cap7]
set_option maxRecDepth 100000 in
set_option maxHeartbeats 2000000 in
theorem caps13 (w : World) : Calls Tryz.prog 10 #[] w fun e w' => e = .returned (cap7 8 100 3 4 6 0 0) ∧ Below w.heap.size w w' := by
  go_enter Tryz.func10, Tryz.ntmps10
  go_wp2_with fail
  exact bodyPost_ret (res_caps13 Tryz.results10 _ _ rfl (Blk.new w _ [.int .i64 8, .int .i64 100, .int .i64 3, .int .i64 4, .int .i64 6, .int .i64 0, .int .i64 0] rfl)) rfl ⟨rfl, (Below.refl _ w).alloc (Nat.le_refl _) _⟩
structure KC (K : Cn) (B : Nat) : Prop where
  I : K.I = 8
  L : K.L = 3
  B : K.B = B
  f : K.files = 4
  o : K.opens = 6
theorem opened13c (B : Nat) (hB : B ≤ 16777216) (w : World) : Calls Tryz.prog 15 #[cap7 8 (B : Int) 3 4 6 0 0] w fun e w' => ∃ K, e = .returned (.tuple #[.pointer (some ⟨K.sg, 0, none⟩), .pointer (some ⟨K.tg, 0, none⟩), .pointer (some ⟨K.g, 0, none⟩), .bool true]) ∧ w.heap.size ≤ K.base ∧ KC K B ∧ DS K 0 NT.Sn NT.D0 [] O0 w' ∧ Below w.heap.size w w' :=
  (opened13 8 B 3 4 6 w (by unfold IN.Right; omega) (by omega) (by omega)).mono (by
    rintro e w' ⟨K, A, rfl, h1, ⟨h2, h3, h4, h5, h6⟩, h7, h8⟩
    exact ⟨K, rfl, h1, ⟨h2, h3, by rw [h4]; simp, h5, h6⟩, ⟨A, h7⟩, h8⟩)
theorem below_do {B q : Nat} {K : Cn} {S : Sm} {D : NT.Ds} {P : Ps} {O : Ou} {w0 w w' : World} (h : Below B w0 w) (hd : DO K q S D P O w w') (hB : B ≤ K.base) : Below B w0 w' := h.trans (hd.2.below hB)
def hello : ByteArray := ⟨#[104, 101, 108, 108, 111]⟩
theorem i64_one : I64 (1 : Int) := ⟨by decide, by decide⟩
theorem i64_seven : I64 (7 : Int) := ⟨by decide, by decide⟩
set_option maxRecDepth 100000 in
set_option maxHeartbeats 8000000 in
theorem shown13 (w : World) : Calls Tryz.prog 9 #[] w fun e w' => e = .returned (.bool true) ∧ Below w.heap.size w w' := by
  have cC := W_hid (caps13 w)
  have cO := fun w => W_hid (show Calls Tryz.prog 15 #[cap7 8 100 3 4 6 0 0] w _ from opened13c 100 (by decide) w)
  unfold cap7 at cC cO
  go_enter Tryz.func9, Tryz.ntmps9
  go_wp2_with fail
  refine cC.out.mono ?_
  rintro e w1 ⟨rfl, b1⟩
  have B1 := W_hid b1
  clear b1 cC
  go_wp2_with fail
  refine (cO _).out.mono ?_
  rintro e w2 ⟨K, rfl, hbase, hK, hd, b2⟩
  have B2 := W_hid (B1.out.trans (b2.mono B1.out.size))
  have hbw := W_hid (Nat.le_trans B1.out.size hbase)
  have cA := add_s 1 w2 hd i64_one (by decide)
  rw [hK.f, add1] at cA
  replace cA := W_hid cA
  replace hK := W_hid hK
  clear b2 hd B1 cO hbase
  go_wp2_with fail
  refine cA.out.mono ?_
  rintro e w3 ⟨rfl, hd⟩
  have B3 := W_hid (below_do B2.out hd hbw.out)
  have cA := open_s 1 sF 7 w3 hd.1 i64_one (by decide) i64_seven (by decide)
  rw [hK.out.I, hK.out.f, hK.out.o, opn1] at cA
  have e1 : sF = ⟨#[102]⟩ := rfl
  rw [e1] at cA
  replace cA := W_hid cA
  clear hd B2
  go_wp2_with fail
  refine cA.out.mono ?_
  rintro e w4 ⟨rfl, hd⟩
  have B4 := W_hid (below_do B3.out hd hbw.out)
  have cA := dup_s 1 0 w4 hd.1 i64_one (by decide)
  rw [hK.out.f, dup1 _ 0 1 (updO_at _ _ _)] at cA
  replace cA := W_hid cA
  clear hd B3
  go_wp2_with fail
  refine cA.out.mono ?_
  rintro e w5 ⟨rfl, hd⟩
  have B5 := W_hid (below_do B4.out hd hbw.out)
  have cA := write_s 1 0 hello w5 hd.1 i64_one (by decide) (by decide)
  rw [hK.out.I, hK.out.B, wri1 (L := [some 0, some 0, none, none]) 100 hello (1 + 1) (by decide) (by decide) lk3 (by decide) (updO_at _ _ _)] at cA
  have e2 : hello = ⟨#[104, 101, 108, 108, 111]⟩ := rfl
  rw [show ((hello.size : Nat) : Int) = 5 from rfl, e2] at cA
  replace cA := W_hid cA
  clear hd B4
  go_wp2_with fail
  refine cA.out.mono ?_
  rintro e w6 ⟨rfl, hd⟩
  have B6 := W_hid (below_do B5.out hd hbw.out)
  have cA := seek_s 1 1 (-4) 1 w6 hd.1 i64_one ⟨by decide, by decide⟩ (by decide)
  rw [sk1 (L := [some 0, some 0, none, none]) (k := 0) (oF 5 (1 + 1)) (xW (⟨#[104, 101, 108, 108, 111]⟩ : ByteArray)) (-4) 1 5 lk3 (by decide) (updO_at _ _ _) (S3_2 _) rfl (by decide) (by decide)] at cA
  replace cA := W_hid cA
  clear hd B5
  go_wp2_with fail
  refine cA.out.mono ?_
  rintro e w7 ⟨rfl, hd⟩
  have B7 := W_hid (below_do B6.out hd hbw.out)
  have cA := read_s 1 0 2 w7 hd.1 i64_one ⟨by decide, by decide⟩ (by decide)
  rw [show (2 : Int) = ((2 : Nat) : Int) from rfl, rd1 (L := [some 0, some 0, none, none]) (k := 0) (⟨#[104, 101, 108, 108, 111]⟩ : ByteArray) (by decide) 1 2 { oF 5 (1 + 1) with off := 5 + -4 } (xW (⟨#[104, 101, 108, 108, 111]⟩ : ByteArray)) (by decide) lk3 (by decide) (updO_at _ _ _) rfl (by show (bits .and .i64 7 1 == 1) = true; decide) (S3_2 _) rfl rfl] at cA
  rw [show pce (⟨#[104, 101, 108, 108, 111]⟩ : ByteArray) 1 (min 2 ((⟨#[104, 101, 108, 108, 111]⟩ : ByteArray).size - 1)) = ⟨#[101, 108]⟩ from rfl] at cA
  replace cA := W_hid cA
  clear hd B6
  go_wp2_with fail
  refine cA.out.mono ?_
  rintro e w8 ⟨rfl, hd⟩
  have B8 := W_hid (below_do B7.out hd hbw.out)
  clear hd B7 cA
  go_wp2_with fail
  go_ret
  exact ⟨rfl, B8.out⟩
end DC
end Go.Proofs.YtfhidjkhmjdioaaGreat

namespace Go.Proofs.YtfhidjkhmjdioaaGreat
open Go.ChangeShapes Go.WideShapes Go.ChangeAt Go.RowKit
open Go.ChangeMaps (open_string shut_string)
set_option linter.unusedVariables false
set_option linter.unusedSimpArgs false
open IN (cap7)
set_option maxRecDepth 100000 in
set_option maxHeartbeats 8000000 in
theorem DescNone_walk (a0 a1 a2 : Int) (a3 : ByteArray) (w : World) (w0 : (Lit.int .i64 a0).wf = true) (w1 : (Lit.int .i64 a1).wf = true) (w2 : (Lit.int .i64 a2).wf = true) (w3 : a3.size ≤ maxLen) :
    Calls Tryz.prog 7 #[.int .i64 a0, .int .i64 a1, .int .i64 a2, .string a3] w fun e w' => e = .returned (.bool true) ∧ Below w.heap.size w w' := by
  have cS := W_hid (DC.shown13 w)
  have cC := fun w => W_hid (DC.caps13 w)
  have cN := fun w => W_hid (DC.New_nil 8 100 3 4 6 0 0 w)
  unfold cap7 at cC cN
  clear w0 w1 w2 w3
  go_enter Tryz.func7, Tryz.ntmps7
  go_wp2_with fail
  refine cS.out.mono ?_
  rintro e x1 ⟨rfl, b1⟩
  have B1 := W_hid b1
  clear b1 cS
  go_wp2_with fail
  refine (cC _).out.mono ?_
  rintro e x2 ⟨rfl, b2⟩
  have B2 := W_hid (B1.out.trans (b2.mono B1.out.size))
  clear b2 B1 cC
  go_wp2_with fail
  refine (cN _).out.mono ?_
  rintro e x3 ⟨rfl, b3⟩
  have B3 := W_hid (B2.out.trans (b3.mono B2.out.size))
  clear b3 B2 cN
  go_wp2_with fail
  refine (DC.Open_nil a0 a3 a1 _).mono ?_
  rintro e x4 ⟨rfl, rfl⟩
  go_wp2_with fail
  refine (DC.Dup_nil a0 a1 _).mono ?_
  rintro e x5 ⟨rfl, rfl⟩
  go_wp2_with fail
  refine (DC.Read_nil a0 a1 a2 _).mono ?_
  rintro e x6 ⟨rfl, rfl⟩
  go_wp2_with fail
  refine (DC.Write_nil a0 a1 a3 _).mono ?_
  rintro e x7 ⟨rfl, rfl⟩
  go_wp2_with fail
  refine (DC.Seek_nil a0 a1 a2 a1 _).mono ?_
  rintro e x8 ⟨rfl, rfl⟩
  go_wp2_with fail
  refine (show Calls Tryz.prog 35 #[.pointer none, .int .i64 a0, .int .i64 a1] _ fun e w' => e = .returned (.tuple #[.agg #[.int .i64 0, .int .i64 0, .int .i64 0, .int .i64 0, .int .i64 0, .int .i64 0], .int .i64 1]) ∧ _ from DC.Stat_nil a0 a1 _).mono ?_
  rintro e x9 ⟨rfl, b9⟩
  have B9 := W_hid (B3.out.trans (b9.mono B3.out.size))
  clear b9 B3
  go_wp2_with fail
  refine (DC.Add_nil a0 _).mono ?_
  rintro e x10 ⟨rfl, rfl⟩
  go_wp2_with fail
  refine (DC.Clone_nil a0 a1 _).mono ?_
  rintro e x10 ⟨rfl, rfl⟩
  go_wp2_with fail
  refine (DC.Drop_nil a0 _).mono ?_
  rintro e x10 ⟨rfl, rfl⟩
  go_wp2_with fail
  refine (DC.Close_nil a0 a1 _).mono ?_
  rintro e x10 ⟨rfl, rfl⟩
  go_wp2_with fail
  refine (DC.Trunc_nil a0 a1 a2 _).mono ?_
  rintro e x10 ⟨rfl, rfl⟩
  go_wp2_with fail
  refine (DC.Procs_nil _).mono ?_
  rintro e x10 ⟨rfl, rfl⟩
  go_wp2_with fail
  refine (DC.Fds_nil a0 _).mono ?_
  rintro e x10 ⟨rfl, rfl⟩
  go_wp2_with fail
  go_ret
  exact ⟨rfl, B9.out.alloc B9.out.size _⟩
set_option maxRecDepth 100000 in
theorem DescNone_lifted (os : Os) (started : os.Started) (H : Type) (enc : TypeId × Value → H) :
    ReturnsInHanded {} Tryz.checked os 7 .any (Rows.descNoneSpec.pre6 enc Tryz.prog Tryz.f7 Rows.descNoneRow.domain false) (Rows.descNoneSpec.post enc Tryz.prog Tryz.f7 false true false false) := by
  refine returnsInHanded_of_change (C := Tryz.checked) (by kernel_rfl) started (by kernel_rfl) Tryz.func7
    (ChangeSpec.witness6 (enc := enc) (C := Tryz.checked) false ⟨#[], #[.int .i64 0, .int .i64 0, .int .i64 0, .string ByteArray.empty], []⟩ 8 (by kernel_rfl) (by kernel_rfl) (by kernel_rfl) (by kernel_rfl)) ?_
  intro W base args ds gs before hval0 hW hcnd _
  have hval : ∀ (j : Nat) t v, Tryz.f7.params[j]? = some t → args[j]? = some v → Value.okWide Tryz.prog W .any base t v := hval0
  have hW' := hW
  obtain ⟨p, q, hA0, hV, rfl, hfz, hnd⟩ := hW
  have hA : DataW.TrodAll enc Tryz.prog W 0 (fun _ => true) true Tryz.f7.params.toList args.toList ds p := hA0
  rw [Tryz.params7] at hA hval
  obtain ⟨v0, vs0, d0, ds0, p0, q0, hargs, rfl, rfl, h0, r0⟩ := trodAll_cons hA
  obtain ⟨v1, vs1, d1, ds1, p1, q1, rfl, rfl, rfl, h1, r1⟩ := trodAll_cons r0
  obtain ⟨v2, vs2, d2, ds2, p2, q2, rfl, rfl, rfl, h2, r2⟩ := trodAll_cons r1
  obtain ⟨v3, vs3, d3, ds3, p3, q3, rfl, rfl, rfl, h3, r3⟩ := trodAll_cons r2
  obtain ⟨rfl, rfl, rfl⟩ := trodAll_nil r3
  obtain rfl : args = #[v0, v1, v2, v3] := by cases args; simp_all
  obtain ⟨rfl, rfl⟩ := trodVars_none hV
  obtain ⟨a0, rfl, rfl, rfl, w0⟩ := open_int Tryz.underlying3 (hval 0 3 v0 rfl rfl) h0
  obtain ⟨a1, rfl, rfl, rfl, w1⟩ := open_int Tryz.underlying3 (hval 1 3 v1 rfl rfl) h1
  obtain ⟨a2, rfl, rfl, rfl, w2⟩ := open_int Tryz.underlying2 (hval 2 2 v2 rfl rfl) h2
  obtain ⟨a3, rfl, rfl, rfl, w3⟩ := open_string Tryz.underlying9 (hval 3 9 v3 rfl rfl) h3
  clear hA0 hval0
  refine (DescNone_walk a0 a1 a2 a3 W w0 w1 w2 w3).mono fun e W' ⟨he, bel⟩ => ?_
  subst he
  exact ⟨_, rfl, _, _, _, [], _, [], hW', trodAll_mk1 (shut_bool Tryz.underlying4 _), (trodAll_cons_mk (shut_int Tryz.underlying3 w0) (trodAll_cons_mk (shut_int Tryz.underlying3 w1) (trodAll_cons_mk (shut_int Tryz.underlying2 w2) (trodAll_cons_mk (shut_string Tryz.underlying9 w3) trodAll_mk0)))), rfl, bel.frame _, fun h => by cases h⟩
theorem DescNone_holds : Rows.DescNoneSaid :=
  OpenClaim.holds_of_wide 7 Tryz.f7 rfl rfl rfl rfl rfl rfl rfl ⟨rfl, rfl, rfl, rfl, rfl⟩ rfl rfl rfl rfl rfl (by kernel_rfl) Tryz.func7 (by kernel_rfl)
    (of_decide_eq_true (by kernel_rfl)) (by unfold Func.isWrapper; first | (rw [if_pos (by decide +kernel)]; kernel_rfl) | (rw [if_neg (by decide +kernel)]; exact ⟨rfl, rfl⟩))
    (fun os started H enc _ => DescNone_lifted os started H enc)
end Go.Proofs.YtfhidjkhmjdioaaGreat
