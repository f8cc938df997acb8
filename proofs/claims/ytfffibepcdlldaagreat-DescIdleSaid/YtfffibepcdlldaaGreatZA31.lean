/- A part. -/
import Derived.Test.YtfffibepcdlldaaGreatZA25
import Derived.Test.YtfffibepcdlldaaGreatZA01
set_option linter.unusedVariables false
set_option linter.unusedSimpArgs false
set_option maxRecDepth 100000
set_option maxHeartbeats 64000000
open Go.Proofs.Tryz

namespace Go.Proofs.YtfffibepcdlldaaGreat
open Go.ChangeShapes Go.WideShapes Go.ChangeAt Go.RowKit Go.Maps
namespace DC
end DC
end Go.Proofs.YtfffibepcdlldaaGreat

namespace Go.Proofs.YtfffibepcdlldaaGreat
open Go.ChangeShapes Go.WideShapes Go.ChangeAt Go.RowKit
namespace DC
theorem mask63 (x:BitVec 64)(h:x &&& ~~~(63#64)=0#64):x.toNat<=63:=by
 have e:x=x &&& 63#64:=by
  apply BitVec.eq_of_getElem_eq
  intro i hi;have hb:(x &&& ~~~(63#64))[i]=(0#64)[i]:=by rw[h]
  simp only[BitVec.getElem_and,BitVec.getElem_not,BitVec.getElem_zero] at hb ⊢
  cases h1:x[i] <;> cases h2:(63#64)[i] <;> simp_all
 rw[e,BitVec.toNat_and];exact Nat.and_le_right
theorem few63:∀ k:Fin 64,bits BinOp.andNot IntKind.i64 ((k.val:Nat):Int) 63=0:=by decide +kernel
theorem small63 (p:Int)(h1 : -9223372036854775808<=p)(h2:p<=9223372036854775807):(bits BinOp.andNot IntKind.i64 p 63 != 0)=decide (p<0∨p>63):=by
 by_cases h:0<=p/\p<=63
 ·obtain⟨k,rfl⟩:∃ k:Nat,p=k:=⟨p.toNat,by omega⟩;have e:=few63 ⟨k,by omega⟩;rw[decide_eq_false (by omega)];simpa using e
 ·rw[decide_eq_true (by omega)]
  cases hb:(bits BinOp.andNot IntKind.i64 p 63 != 0) with
  | true=>rfl
  | false=>
    exfalso
    have h0:bits BinOp.andNot IntKind.i64 p 63=0:=by simpa using hb
    have hz:(BitVec.ofInt 64 p &&& ~~~(63#64))=0#64:=by
     apply BitVec.eq_of_toNat_eq
     have hlt:=(BitVec.ofInt 64 p &&& ~~~(63#64)).isLt;have h1:IntKind.i64.wrap (((BitVec.ofInt 64 p &&& ~~~(63#64)).toNat:Nat):Int)=0:=h0;generalize (BitVec.ofInt 64 p &&& ~~~(63#64)).toNat=n at *;simp[IntKind.wrap,IntKind.signed,IntKind.bits] at h1;simp
     omega
    have h7:=mask63 _ hz;rw[BitVec.toNat_ofInt] at h7
    omega
def flg (f:Int):Bool:=decide (1<=f/\f<=63) && !(bits .and .i64 f 3 == 0) && ((bits .and .i64 f 48 == 0) || (bits .and .i64 f 2 != 0)) && ((bits .and .i64 f 8 == 0) || (bits .and .i64 f 4 != 0))
theorem flg_range {f:Int}(h:flg f=true):1<=f/\f<=63:=by
 unfold flg at h;simp only[Bool.and_eq_true,decide_eq_true_eq] at h;exact h.1.1.1
theorem valid_any (f:Int)(h1 : -9223372036854775808<=f)(h2:f<=9223372036854775807)(w:World):Calls prog 59 #[.int .i64 f] w fun e w'=>e=.returned (.bool (flg f))/\w'=w:=by
 obtain⟨t1,d1⟩:∃ t,(bits .andNot .i64 f 63 != 0)=t:=⟨_,rfl⟩;obtain⟨t2,d2⟩:∃ t,(bits .and .i64 f 3 == 0)=t:=⟨_,rfl⟩;obtain⟨t3,d3⟩:∃ t,(bits .and .i64 f 48 != 0)=t:=⟨_,rfl⟩;obtain⟨t4,d4⟩:∃ t,(bits .and .i64 f 2 == 0)=t:=⟨_,rfl⟩;obtain⟨t5,d5⟩:∃ t,(bits .and .i64 f 8 == 0)=t:=⟨_,rfl⟩;obtain⟨t6,d6⟩:∃ t,(bits .and .i64 f 4 != 0)=t:=⟨_,rfl⟩;have ef:flg f=(!t1 && !t2 && (!t3 || !t4) && (t5 || t6)):=by
  unfold flg;have e0:=small63 f h1 h2;rw[d1] at e0;have e3:(bits .and .i64 f 48 == 0) = !t3:=by rw[<-d3,bne,Bool.not_not]
  have e4:(bits .and .i64 f 2 != 0) = !t4:=by rw[<-d4,bne]
  rw[d2,e3,e4,d5,d6];have e1:(decide (1<=f/\f<=63) && !t2)=(!t1 && !t2):=by
   by_cases hz:f=0
   ·subst hz;have:t2=true:=by rw[<-d2];decide
    rw[this];simp
   ·rw[e0]
    by_cases h:1<=f/\f<=63
    ·rw[decide_eq_true h,decide_eq_false (by omega)];rfl
    ·rw[decide_eq_false h,decide_eq_true (by omega)];rfl
  rw[e1]
 rw[ef];clear ef h1 h2
 cases t1 <;> cases t2 <;> cases t3 <;> cases t4 <;> cases t5 <;> cases t6 <;> (
  go_enter func59,ntmps59
  go_wp2_with fail
  go_ret
  exact⟨rfl,rfl⟩)
theorem isFlags_any (f:Int)(w:World):Calls prog 80 #[.int .i64 f] w fun e w'=>e=.returned (.bool (flg f))/\w'=w:=by
 obtain⟨t0,d0⟩:∃ t,decide (f<1)=t:=⟨_,rfl⟩;obtain⟨t1,d1⟩:∃ t,decide (f>63)=t:=⟨_,rfl⟩;obtain⟨t2,d2⟩:∃ t,(bits .and .i64 f 3 == 0)=t:=⟨_,rfl⟩;obtain⟨t3,d3⟩:∃ t,(bits .and .i64 f 48 == 0)=t:=⟨_,rfl⟩;obtain⟨t4,d4⟩:∃ t,(bits .and .i64 f 2 != 0)=t:=⟨_,rfl⟩;obtain⟨t5,d5⟩:∃ t,(bits .and .i64 f 8 == 0)=t:=⟨_,rfl⟩;obtain⟨t6,d6⟩:∃ t,(bits .and .i64 f 4 != 0)=t:=⟨_,rfl⟩;have ef:flg f=(!(t0 || (t1 || t2)) && (t3 || t4) && (t5 || t6)):=by
  unfold flg;rw[d2,d3,d4,d5,d6];have e1:decide (1<=f/\f<=63)=(!t0 && !t1):=by
   rw[<-d0,<-d1]
   by_cases h:1<=f/\f<=63
   ·rw[decide_eq_true h,decide_eq_false (by omega),decide_eq_false (by omega)];rfl
   ·rw[decide_eq_false h]
    by_cases h0:f<1
    ·rw[decide_eq_true h0];rfl
    ·rw[decide_eq_true (show f>63 by omega)];simp
  rw[e1]
  cases t0 <;> cases t1 <;> cases t2 <;> rfl
 rw[ef];clear ef
 cases t0 <;> cases t1 <;> cases t2 <;> cases t3 <;> cases t4 <;> cases t5 <;> cases t6 <;> (
  go_enter func80,ntmps80
  go_wp2_with fail
  go_ret
  exact⟨rfl,rfl⟩)
end DC
namespace DC
structure Of where
 ino:Int
 off:Int
 flags:Int
 refs:Int
def FB (w:World)(g:Nat)(o:Of):Prop:=Blk w g 130 [.int .i64 o.ino,.int .i64 o.off,.int .i64 o.flags,.int .i64 o.refs]
def pv (x:Option Nat):Value:=.pointer (x.map fun g=>⟨g,0,none⟩)
def PR (w:World)(g:Nat)(L:List (Option Nat)):Prop:=L.length=64/\Blk w g 106 (L.map pv)
theorem PR.at_ {w:World}{g:Nat}{L:List (Option Nat)}(h:PR w g L){k:Nat}{x:Option Nat}(hx:L[k]? = some x):w.cell? ⟨g,k,none⟩=some (pv x):=h.2.cell (by rw[List.getElem?_map,hx];rfl)
def getL (L:List (Option Nat))(fd:Int):Option Nat:=if 0<=fd then (L[fd.toNat]?).join else none
theorem getL_none {L:List (Option Nat)}{fd:Int}(h:fd<0∨L.length<=fd):getL L fd=none:=by
 unfold getL
 split
 ·rw[List.getElem?_eq_none (by omega)];rfl
 ·rfl
theorem getL_at {L:List (Option Nat)}{k:Nat}{x:Option Nat}(h:L[k]? = some x):getL L k=x:=by
 unfold getL;rw[if_pos (by omega),Int.toNat_natCast,h];rfl
theorem allows_any (g:Nat)(o:Of)(need:Int)(w:World)(h:FB w g o):Calls prog 67 #[.pointer (some ⟨g,0,none⟩),.int .i64 need] w fun e w'=>e=.returned (.bool (bits .and .i64 o.flags need == need))/\w'=w:=by
 have c2:=h.cell (j:=2) rfl;clear h;go_enter func67,ntmps67
 go_wp2_with fail
 go_ret
 exact⟨rfl,rfl⟩
theorem get_out (pa:Option Addr)(fd:Int)(w:World)(h:fd<0∨64<=fd):Calls prog 110 #[.pointer pa,.int .i64 fd] w fun e w'=>e=.returned (.pointer none)/\w'=w:=by
 by_cases h0:fd<0
 ·go_enter func110,ntmps110
  go_wp2_with fail
  go_ret
  exact⟨rfl,rfl⟩
 ·have h1:64<=fd:=by omega
  go_enter func110,ntmps110
  go_wp2_with fail
  go_ret
  exact⟨rfl,rfl⟩
theorem get_in (g k:Nat)(L:List (Option Nat))(x:Option Nat)(w:World)(h:PR w g L)(hx:L[k]? = some x):Calls prog 110 #[.pointer (some ⟨g,0,none⟩),.int .i64 k] w fun e w'=>e=.returned (pv x)/\w'=w:=by
 have c:=h.at_ hx;have hk:k<64:=by
  have:=(List.getElem?_eq_some_iff.mp hx).1;rw[h.1] at this;exact this
 clear h hx;obtain⟨v,hv⟩:∃ v,pv x=.pointer v:=⟨_,rfl⟩;rw[hv] at c ⊢;go_enter func110,ntmps110
 go_wp2_with fail
 go_ret
 exact⟨rfl,rfl⟩
end DC
end Go.Proofs.YtfffibepcdlldaaGreat

namespace Go.Proofs.YtfffibepcdlldaaGreat
open Go.ChangeShapes Go.WideShapes Go.ChangeAt Go.RowKit Go.Maps
namespace DC
open IS (ptr pd PR_ptr PR_inv key key_of key_ne isKey keyed_int I64 own_tight upd)
theorem und_procs:prog.underlying 94=some (.map 3 103):=by kernel_rfl
theorem zero_proc (w:World):(zeroValue 103).run prog w=.ok (ptr none) w:=by kernel_rfl
structure MB (w:World)(b n:Nat)(M:Int->Option Nat):Prop where
 ex:∃ D:DataW Unit,w.ownsMap prog 3 IS.PR b (Maps.size D) D/\Maps.size D<=n/\(∀ f,I64 f->Maps.has D (key f)=(M f).isSome)/\(∀ f g,I64 f->M f=some g->∀ z,D.atKey (key f) z=pd (some g))
 bound:∀ f,M f≠none->I64 f
section
variable {w w':World}{b n:Nat}{M:Int->Option Nat}
theorem own_size {D:DataW Unit}(h:w.ownsMap prog 3 IS.PR b n D):Maps.size D<=n:=by
 obtain⟨es,clock,hb,F,hs,rfl⟩:=h;simpa[Maps.size,length_sorted] using hs
theorem MB.congr (h:MB w b n M){M':Int->Option Nat}(hM:∀ f,M f=M' f):MB w b n M':=by
 have:M=M':=funext hM;rw[<-this];exact h
theorem MB.le (h:MB w b n M){m:Nat}(hm:n<=m):MB w b m M:=by
 obtain⟨⟨D,ho,hs,h1,h2⟩,hb⟩:=h;exact⟨⟨D,ho,by omega,h1,h2⟩,hb⟩
theorem MB.lt (h:MB w b n M):b<w.heap.size:=by obtain⟨D,ho,_⟩:=h.ex;exact ho.lt
theorem MB.look (h:MB w b n M)(f:Int)(hf:I64 f) :
 (Instr.lookup 94 (.map (some b)) (.int .i64 f) false).run prog w=.ok (ptr (M f)) w:=by
 obtain⟨⟨D,ho,hs,h1,h2⟩,hb⟩:=h;obtain⟨v,ps,hrun,hv⟩:=ho.lookup keyed_int und_procs (zero_proc w) (PR_ptr none) (key_of f hf);have e:v=ptr (M f):=by
  apply PR_inv (ps:=ps)
  rw[hv]
  cases hm:M f with
  | none=>have:=h1 f hf;rw[hm] at this;rw[Maps.atKey_of_not_has (by simpa using this)]
  | some g=>rw[h2 f g hf hm]
 rw[hrun,e]
theorem MB.put (h:MB w b n M)(hn:n<maxLen)(f:Int)(g:Nat)(hf:I64 f) :
 ∃ w',(Instr.mapUpdate 94 (.map (some b)) (.int .i64 f) (.pointer (some ⟨g,0,none⟩))).run prog w=.ok () w'/\MB w' b (n+1) (upd M f (some g))/\w.grownBy w' (some b)/\w'.heap.size=w.heap.size:=by
 obtain⟨⟨D,ho,hs,h1,h2⟩,hb⟩:=h;obtain⟨w',hrun,ho',ht⟩:=ho.store keyed_int und_procs (by omega) (key_of f hf) (PR_ptr (some g));refine⟨w',hrun,⟨⟨_,own_tight ho',?_,fun k hk=>?_,fun k vs hk hv z=>?_⟩,fun k hk=>?_⟩,ht.grown,?_⟩
 ·exact Nat.le_trans (own_size ho') (by omega)
 ·unfold upd
  by_cases e:k=f
  ·subst e;rw[if_pos rfl,Maps.has_put_same ho.isMap (isKey k hk)];rfl
  ·rw[if_neg e,Maps.has_put_other (key_ne e),h1 k hk]
 ·unfold upd at hv
  by_cases e:k=f
  ·subst e;rw[if_pos rfl] at hv;cases hv;exact Maps.atKey_put_same ho.isMap (isKey k hk) _ _
  ·rw[if_neg e] at hv;rw[Maps.atKey_put_other (key_ne e)];exact h2 k vs hk hv z
 ·unfold upd at hk
  by_cases e:k=f
  ·exact e▸hf
  ·rw[if_neg e] at hk;exact hb k hk
 ·obtain⟨es,c,es',c',hbb,rfl⟩:=ht;simp[ChangeMaps.setBlock]
theorem MB.del (h:MB w b n M)(f:Int)(hf:I64 f)(ty:TypeId) :
 ∃ w',(Builtin.delete_ #[94,3] ty #[.map (some b),.int .i64 f]).run prog w=.ok (.tuple #[]) w'/\MB w' b n (upd M f none)/\w.grownBy w' (some b)/\w'.heap.size=w.heap.size:=by
 obtain⟨⟨D,ho,hs,h1,h2⟩,hb⟩:=h;obtain⟨w',hrun,ho',ht⟩:=ho.drop keyed_int und_procs (key_of f hf) ty;refine⟨w',hrun,⟨⟨_,own_tight ho',?_,fun g hg=>?_,fun g vs hg hv z=>?_⟩,fun g hg=>?_⟩,ht.grown,?_⟩
 ·exact Nat.le_trans (own_size ho') hs
 ·unfold upd
  by_cases e:g=f
  ·subst e;rw[if_pos rfl,Maps.has_del_same];rfl
  ·rw[if_neg e,Maps.has_del_other (key_ne e),h1 g hg]
 ·unfold upd at hv
  by_cases e:g=f
  ·rw[if_pos e] at hv;cases hv
  ·rw[if_neg e] at hv;rw[Maps.atKey_del_other (key_ne e)];exact h2 g vs hg hv z
 ·unfold upd at hg
  by_cases e:g=f
  ·rw[if_pos e] at hg;exact absurd rfl hg
  ·rw[if_neg e] at hg;exact hb g hg
 ·obtain⟨es,c,es',c',hbb,rfl⟩:=ht;simp[ChangeMaps.setBlock]
theorem MB.heap (h:MB w b n M)(e:w'.heap[b]? = w.heap[b]?):MB w' b n M:=by
 obtain⟨⟨D,⟨es,clock,hb,F,hs,hD⟩,hz,h1,h2⟩,hbd⟩:=h;exact⟨⟨D,⟨es,clock,e.trans hb,F,hs,hD⟩,hz,h1,h2⟩,hbd⟩
theorem MB.keep (h:MB w b n M)(hb:Below w.heap.size w w'):MB w' b n M:=h.heap (hb.block b h.lt)
theorem MB.far (h:MB w b n M){p:Addr}(hp:b≠p.block)(u:Value):MB (w.setCell p u) b n M:=h.heap (Below.heap_setCell w p u b hp)
theorem MB.alloc (h:MB w b n M)(o:Obj):MB (w.alloc o) b n M:=h.heap (Below.heap_alloc w o b h.lt)
theorem MB.drew (h:MB w b n M)(t:Nat):MB (w.drewN t) b n M:=h.heap rfl
theorem MB.new (w:World):MB (w.alloc (.map #[] 0)) w.heap.size 0 (fun _=>none):=
 ⟨⟨.map [],own_tight (World.ownsMap_made w _ _ IS.PR),Nat.le_refl _,fun _ _=>rfl,fun _ _ _ h=>by cases h⟩,fun _ h=>absurd rfl h⟩
end
end DC
namespace DC
open IS (ptr I64)
def TB (w:World)(g sg ng b:Nat)(files left:Int):Prop:=Blk w g 96 [.pointer (some ⟨sg,0,none⟩),.pointer (some ⟨ng,0,none⟩),.map (some b),.int .i64 files,.int .i64 left]
section
variable {w:World}{g sg ng b n:Nat}{files left:Int}{M:Int->Option Nat}
theorem none_any (w:World)(h:TB w g sg ng b files left):Calls prog 38 #[.pointer (some ⟨g,0,none⟩)] w fun e w'=>e=.returned (.bool false)/\w'=w:=by
 have c2:=h.cell (j:=2) rfl;have hb:∀ w,(binOp .eql 94 (.map (some b)) (.map none)).run prog w=.ok (.bool false) w:=fun w=>by kernel_rfl
 clear h;go_enter func38,ntmps38
 go_wp2_with fail
 go_ret
 exact⟨rfl,rfl⟩
theorem process_no (pid:Int)(w:World)(h:TB w g sg ng b files left)(hm:MB w b n M)(hp:I64 pid)(hn:M pid=none):Calls prog 58 #[.pointer (some ⟨g,0,none⟩),.int .i64 pid] w fun e w'=>e=.returned (.tuple #[.pointer none,.int .i64 19])/\w'=w:=by
 have cN:=Wd (none_any w h);have c2:=h.cell (j:=2) rfl;have hl:=hm.look pid hp;rw[hn] at hl;unfold ptr at hl;clear h hm;go_enter func58,ntmps58
 go_wp2_with fail
 refine cN.out.mono ?_;rintro e w1 ⟨rfl,rfl⟩;go_wp2_with fail
 go_ret2
 exact⟨rfl,rfl⟩
theorem process_yes (pid:Int)(p:Nat)(w:World)(h:TB w g sg ng b files left)(hm:MB w b n M)(hp:I64 pid)(hn:M pid=some p):Calls prog 58 #[.pointer (some ⟨g,0,none⟩),.int .i64 pid] w fun e w'=>e=.returned (.tuple #[.pointer (some ⟨p,0,none⟩),.int .i64 0])/\w'=w:=by
 have cN:=Wd (none_any w h);have c2:=h.cell (j:=2) rfl;have hl:=hm.look pid hp;rw[hn] at hl;unfold ptr at hl;clear h hm;go_enter func58,ntmps58
 go_wp2_with fail
 refine cN.out.mono ?_;rintro e w1 ⟨rfl,rfl⟩;go_wp2_with fail
 go_ret2
 exact⟨rfl,rfl⟩
def vacR (M:Int->Option Nat)(pid:Int):Int:=if pid<1 then 2 else if M pid=none then 0 else 12
theorem vacant_any (pid:Int)(w:World)(h:TB w g sg ng b files left)(hm:MB w b n M)(hp:I64 pid):Calls prog 39 #[.pointer (some ⟨g,0,none⟩),.int .i64 pid] w fun e w'=>e=.returned (.int .i64 (vacR M pid))/\w'=w:=by
 have c2:=h.cell (j:=2) rfl;have hl:=hm.look pid hp;clear h hm;unfold vacR
 by_cases h1:pid<1
 ·rw[if_pos h1];clear hl;go_enter func39,ntmps39
  go_wp2_with fail
  go_ret
  exact⟨rfl,rfl⟩
 ·rw[if_neg h1]
  cases hM:M pid with
  | none=>
    rw[if_pos rfl];rw[hM] at hl;unfold ptr at hl;clear hM;go_enter func39,ntmps39
    go_wp2_with fail
    go_ret
    exact⟨rfl,rfl⟩
  | some p=>
    rw[if_neg (by simp)];rw[hM] at hl;unfold ptr at hl;clear hM;go_enter func39,ntmps39
    go_wp2_with fail
    go_ret
    exact⟨rfl,rfl⟩
theorem file_srch (pid fd need:Int)(w:World)(h:TB w g sg ng b files left)(hm:MB w b n M)(hp:I64 pid)(hn:M pid=none):Calls prog 64 #[.pointer (some ⟨g,0,none⟩),.int .i64 pid,.int .i64 fd,.int .i64 need] w fun e w'=>e=.returned (.tuple #[.pointer none,.int .i64 19])/\w'=w:=by
 have cP:=Wd (process_no pid w h hm hp hn);clear h hm hp hn;go_enter func64,ntmps64
 go_wp2_with fail
 refine cP.out.mono ?_;rintro e w1 ⟨rfl,rfl⟩;go_wp2_with fail
 go_ret2
 exact⟨rfl,rfl⟩
theorem get_any (p:Nat)(fd:Int)(L:List (Option Nat))(w:World)(h:PR w p L):Calls prog 110 #[.pointer (some ⟨p,0,none⟩),.int .i64 fd] w fun e w'=>e=.returned (pv (getL L fd))/\w'=w:=by
 by_cases hr:fd<0∨64<=fd
 ·rw[getL_none (by rw[h.1];omega)];exact get_out _ fd w hr
 ·obtain⟨k,rfl⟩:∃ k:Nat,fd=k:=⟨fd.toNat,by omega⟩;obtain⟨x,hx⟩:∃ x,L[k]? = some x:=⟨_,List.getElem?_eq_getElem (by rw[h.1];omega)⟩;rw[getL_at hx];exact get_in p k L x w h hx
theorem file_none (pid fd need:Int)(p:Nat)(L:List (Option Nat))(w:World)(h:TB w g sg ng b files left)(hm:MB w b n M)(hp:I64 pid)(hn:M pid=some p)(hL:PR w p L)(hg:getL L fd=none):Calls prog 64 #[.pointer (some ⟨g,0,none⟩),.int .i64 pid,.int .i64 fd,.int .i64 need] w fun e w'=>e=.returned (.tuple #[.pointer none,.int .i64 16])/\w'=w:=by
 have cP:=Wd (process_yes pid p w h hm hp hn);have cG:=get_any p fd L w hL;rw[hg] at cG;replace cG:=Wd (show Calls prog 110 #[.pointer (some ⟨p,0,none⟩),.int .i64 fd] w fun e w'=>e=.returned (.pointer none)/\w'=w from cG);clear h hm hp hn hL hg;go_enter func64,ntmps64
 go_wp2_with fail
 refine cP.out.mono ?_;rintro e w1 ⟨rfl,rfl⟩;go_wp2_with fail
 refine cG.out.mono ?_;rintro e w1 ⟨rfl,rfl⟩;go_wp2_with fail
 go_ret2
 exact⟨rfl,rfl⟩
theorem file_some (pid fd need:Int)(p f:Nat)(L:List (Option Nat))(o:Of)(w:World)(h:TB w g sg ng b files left)(hm:MB w b n M)(hp:I64 pid)(hn:M pid=some p)(hL:PR w p L)(hg:getL L fd=some f)(ho:FB w f o):Calls prog 64 #[.pointer (some ⟨g,0,none⟩),.int .i64 pid,.int .i64 fd,.int .i64 need] w fun e w'=>e=.returned (if (bits .and .i64 o.flags need == need)=true then .tuple #[.pointer (some ⟨f,0,none⟩),.int .i64 0] else .tuple #[.pointer none,.int .i64 16])/\w'=w:=by
 have cP:=Wd (process_yes pid p w h hm hp hn);have cG:=get_any p fd L w hL;rw[hg] at cG;replace cG:=Wd (show Calls prog 110 #[.pointer (some ⟨p,0,none⟩),.int .i64 fd] w fun e w'=>e=.returned (.pointer (some ⟨f,0,none⟩))/\w'=w from cG);have cA:=allows_any f o need w ho;obtain⟨t,ht⟩:∃ t,(bits .and .i64 o.flags need == need)=t:=⟨_,rfl⟩;rw[ht] at cA ⊢;replace cA:=Wd cA;clear h hm hp hn hL hg ho ht
 cases t <;> (
  simp only[Bool.false_eq_true,if_true,if_false];go_enter func64,ntmps64
  go_wp2_with fail
  refine cP.out.mono ?_;rintro e w1 ⟨rfl,rfl⟩;go_wp2_with fail
  refine cG.out.mono ?_;rintro e w1 ⟨rfl,rfl⟩;go_wp2_with fail
  refine cA.out.mono ?_;rintro e w1 ⟨rfl,rfl⟩;go_wp2_with fail
  go_ret2
  exact⟨rfl,rfl⟩)
end
end DC
namespace DC
open IS (ptr I64 upd)
section
variable {w:World}{g sg ng b n:Nat}{files left:Int}{M:Int->Option Nat}
theorem put_any (p f k:Nat)(L:List (Option Nat))(o:Of)(w:World)(hL:PR w p L)(ho:FB w f o)(hk:k<64)(hne:p≠f)(hr:0<=o.refs/\o.refs<9223372036854775807) :
 Calls prog 63 #[.pointer (some ⟨p,0,none⟩),.int .i64 k,.pointer (some ⟨f,0,none⟩)] w fun e w'=>e=.returned (.tuple #[])/\w'=(w.setCell ⟨f,3,none⟩ (.int .i64 (o.refs+1))).setCell ⟨p,k,none⟩ (.pointer (some ⟨f,0,none⟩)):=by
 have c3:=ho.cell (j:=3) rfl;have fz:=ho.fz;have fp:=hL.2.fz;obtain⟨x,hx⟩:∃ x,L[k]? = some x:=⟨_,List.getElem?_eq_getElem (by rw[hL.1];omega)⟩;have ck:=hL.at_ hx;obtain⟨v,hv⟩:∃ v,pv x=.pointer v:=⟨_,rfl⟩;rw[hv] at ck;have hlt:=hr.2;clear hL ho hx hv;go_enter func63,ntmps63
 go_wp2_with fail
 exact bodyPost_end (results_none results63 _ _ _) rfl ⟨rfl,rfl⟩
theorem Add_no (pid c:Int)(w:World)(h:TB w g sg ng b files left)(hm:MB w b n M)(hp:I64 pid)(hc:vacR M pid=c)(h0:c≠0):Calls prog 14 #[.pointer (some ⟨g,0,none⟩),.int .i64 pid] w fun e w'=>e=.returned (.int .i64 c)/\w'=w:=by
 have cN:=Wd (none_any w h);have cV:=vacant_any pid w h hm hp;rw[hc] at cV;replace cV:=Wd cV;have hne:(c != 0)=true:=by simpa using h0
 clear h hm hp hc h0;go_enter func14,ntmps14
 go_wp2_with fail
 refine cN.out.mono ?_;rintro e w1 ⟨rfl,rfl⟩;go_wp2_with fail
 refine cV.out.mono ?_;rintro e w1 ⟨rfl,rfl⟩;go_wp2_with fail
 go_ret
 exact⟨rfl,rfl⟩
theorem two_grown {w w':World}{b:Nat}(h:w.grownBy w' (some b))(hs:w'.heap.size=w.heap.size):Two b b w w':=⟨h.os,h.tape,h.output,by omega,fun k hk h1 _=>h.block k hk (fun e=>h1 (by cases e;rfl))⟩
def L0:List (Option Nat):=List.replicate 64 none
theorem Add_yes (pid:Int)(w:World)(h:TB w g sg ng b files left)(hm:MB w b n M)(hp:I64 pid)(hc:vacR M pid=0)(hn:n<maxLen):Calls prog 14 #[.pointer (some ⟨g,0,none⟩),.int .i64 pid] w fun e w'=>e=.returned (.int .i64 0)/\∃ p,w.heap.size<=p/\PR w' p L0/\MB w' b (n+1) (upd M pid (some p))/\Two b b w w':=by
 have cN:=Wd (none_any w h);have cV:=vacant_any pid w h hm hp;rw[hc] at cV;replace cV:=Wd cV;have c2:=h.cell (j:=2) rfl;have hPR:PR (w.alloc (.cells (L0.map pv).toArray 106)) w.heap.size L0:=⟨rfl,Blk.new _ _ _ rfl⟩;obtain⟨W2,hrun,r1,r2,r3⟩:=(hm.alloc (.cells (L0.map pv).toArray 106)).put hn pid w.heap.size hp;have hrun2:(Instr.mapUpdate 94 (.map (some b)) (.int .i64 pid) (.pointer (some ⟨w.heap.size,0,none⟩))).run prog (w.alloc (.cells #[.pointer none,.pointer none,.pointer none,.pointer none,.pointer none,.pointer none,.pointer none,.pointer none,.pointer none,.pointer none,.pointer none,.pointer none,.pointer none,.pointer none,.pointer none,.pointer none,.pointer none,.pointer none,.pointer none,.pointer none,.pointer none,.pointer none,.pointer none,.pointer none,.pointer none,.pointer none,.pointer none,.pointer none,.pointer none,.pointer none,.pointer none,.pointer none,.pointer none,.pointer none,.pointer none,.pointer none,.pointer none,.pointer none,.pointer none,.pointer none,.pointer none,.pointer none,.pointer none,.pointer none,.pointer none,.pointer none,.pointer none,.pointer none,.pointer none,.pointer none,.pointer none,.pointer none,.pointer none,.pointer none,.pointer none,.pointer none,.pointer none,.pointer none,.pointer none,.pointer none,.pointer none,.pointer none,.pointer none,.pointer none] 106))=.ok () W2:=hrun;have hlt:=hm.lt;have hfin:Hid (∃ p,w.heap.size<=p/\PR W2 p L0/\MB W2 b (n+1) (upd M pid (some p))/\Two b b w W2):=Wd ⟨w.heap.size,Nat.le_refl _,⟨rfl,hPR.2.grown r2 (by intro e;cases e;omega)⟩,r1,(Two.of ((Below.refl _ w).alloc (Nat.le_refl _) _)).trans (two_grown r2 r3)⟩;clear h hc hrun hPR r1 r2 r3 hm hlt;go_enter func14,ntmps14
 go_wp2_with fail
 refine cN.out.mono ?_;rintro e w1 ⟨rfl,rfl⟩;go_wp2_with fail
 refine cV.out.mono ?_;rintro e w1 ⟨rfl,rfl⟩;go_wp2_with fail
 go_ret
 exact⟨rfl,hfin.out⟩
end
end DC
end Go.Proofs.YtfffibepcdlldaaGreat
