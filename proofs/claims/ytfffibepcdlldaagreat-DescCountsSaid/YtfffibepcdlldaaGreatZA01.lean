/- A part. -/
import Derived.Test.YtfffibepcdlldaaGreatRows
import Derived.WalkKit
import Derived.ProofKit
import Derived.KernelRfl
import Derived.Laws.AppendOwn
import Derived.Deep.RegionHeld3
import Derived.OrdersHeld
import Derived.WalkSmall
import Derived.OpenShut
import Derived.Laws.OwnMore
import Derived.Deep.OwnRows
import Derived.Maps.OwnSet
import Derived.Maps.RangeWalk
import Derived.Carry
set_option linter.unusedVariables false
set_option linter.unusedSimpArgs false
set_option maxRecDepth 100000
set_option maxHeartbeats 64000000
open Go.Proofs.Tryz

namespace Go.Proofs.YtfffibepcdlldaaGreat
open Go.ChangeShapes Go.WideShapes Go.ChangeAt Go.RowKit
theorem Wd {p:Prop}(h:p):Hid p:=h
theorem ret_int {k:IntKind}{a b:Int}(h:a=b):Ending.returned (.int k a)=.returned (.int k b):=by rw[h]
theorem ret_bool {a b:Bool}(h:a=b):Ending.returned (.bool a)=.returned (.bool b):=by rw[h]
theorem info_byte:(prog.info? 5).map (fun i=>(i.zero,i.size,i.bytes))=some (some (.int .u8 0),1,1):=by kernel_rfl
theorem own_ge {w:World}{base e size n:Nat}{v:Value}{xs:List Value}(hown:w.ownsRow base e size v n xs)(g:Nat)(hg:v.ownBlock=some g):base<=g:=by
 rcases hown.2 with ⟨rfl,_⟩|⟨g',cap,cur,rfl,hb,_⟩
 ·cases hg
 ·cases hg;exact hb
theorem own_base {w:World}{base base' e size:Nat}{v:Value}{n:Nat}{xs:List Value}(h:base'<=base)(hown:w.ownsRow base e size v n xs):w.ownsRow base' e size v n xs:=by
 rcases hown.2 with h0|⟨g,cap,cur,h1,h2,h3⟩
 ·exact⟨hown.1,.inl h0⟩
 ·exact⟨hown.1,.inr ⟨g,cap,cur,h1,Nat.le_trans h h2,h3⟩⟩
section
variable {P:Program}{ops:Array Oper}{Q:Exit->Act->World->Prop}{md:Region.Mode}{S:World->Prop}
theorem wt {i:Nat} {v:Value} {oi:Oper} {fuel:Nat} {listed ls:Array Bool} {a a':Act} {w:World} (hS:S w) (h:wpAnyH P md ops Q S fuel ls a' w)
 (hi:ops[i]? = some oi:=by rfl) (hs:Region.noSelect ops=true:=by kernel_rfl) (hf:Region.free md ops listed i=true:=by kernel_rfl) (hr:(Region.ready md ops listed).contains i=true:=by kernel_rfl)
 (hQ:∀ c a w,Q (.panic c) (a.put oi.dst v) w->Q (.panic c) a w:=by exact fun _ _ _ h=>h)
 (hw:Region.wanted oi (yielded ops a.tmps)=true:=by rfl)
 (hv:∀ w,S w->(execOp a.eval oi).run P w=.ok (.value v) w:=by (intro w0 hs;repeat (obtain⟨hq,hs⟩:=hs));go_simp)
 (hl:listed.setIfInBounds i true=ls:=by (first|(simp only[List.setIfInBounds_toArray,List.set_cons_zero,List.set_cons_succ];try rfl)|rfl))
 (ha:a.put oi.dst v=a':=by (first|(simp only[Act.put,List.setIfInBounds_toArray,List.set_cons_zero,List.set_cons_succ,List.getElem_toArray,List.getElem_cons_zero,List.getElem_cons_succ];try rfl)|rfl)):wpAnyH P md ops Q S (fuel+1) listed a w:=
 wpAnyH_take hi hs hf hr hQ (.inl ⟨hw,hv⟩) hS (by rw[hl,ha];exact h)
end
theorem laidOut:laidOutB prog=true:=by kernel_rfl
theorem cell_lt {w:World}{p:Addr}{v:Value}(h:w.cell? p=some v):p.block<w.heap.size:=World.block_lt_of_cell? w p h
theorem bundrew {B:Nat}{w w':World}(h:Below B w.drew w'):Below B w w':=⟨h.os,h.tape,h.output,h.size,h.block⟩
def Blk (w:World)(g:Nat)(e:TypeId)(l:List Value):Prop:=w.heap[g]? = some (.cells l.toArray e (0,0))
section
variable {w w':World}{g:Nat}{e:TypeId}{l:List Value}
theorem Blk.cell (h:Blk w g e l){j:Nat}{v:Value}(hj:l[j]? = some v):w.cell? ⟨g,j,none⟩=some v:=by
 rw[cell_of_row w g j _ _ _ h];simpa using hj
theorem Blk.fz (h:Blk w g e l)(i:Nat):w.frozen? ⟨g,i,none⟩=false:=by unfold Blk at h;simp[World.frozen?,h]
theorem Blk.lt (h:Blk w g e l):g<w.heap.size:=by
 rcases Nat.lt_or_ge g w.heap.size with hlt|hge
 ·exact hlt
 ·unfold Blk at h;rw[Array.getElem?_eq_none hge] at h;cases h
theorem Blk.below {B:Nat}(h:Blk w g e l)(hb:Below B w w')(hg:g<B):Blk w' g e l:=(hb.block g hg).trans h
theorem Blk.keep (h:Blk w g e l)(hb:Below w.heap.size w w'):Blk w' g e l:=h.below hb h.lt
theorem Blk.alloc (h:Blk w g e l)(o:Obj):Blk (w.alloc o) g e l:=(Below.heap_alloc w o g h.lt).trans h
theorem Blk.grown {row:Option Nat}(h:Blk w g e l)(hb:w.grownBy w' row)(hg:some g≠row):Blk w' g e l:=(hb.block g h.lt hg).trans h
theorem Blk.far (h:Blk w g e l){p:Addr}(hp:g≠p.block)(u:Value):Blk (w.setCell p u) g e l:=(Below.heap_setCell w p u g hp).trans h
theorem Blk.set (h:Blk w g e l)(j:Nat)(u:Value):Blk (w.setCell ⟨g,j,none⟩ u) g e (l.set j u):=by
 unfold Blk at h ⊢;rw[heap_setCell_same w g j _ _ u h];simp
end
theorem Blk.new (w:World)(e:TypeId)(l:List Value){x:Nat}(hx:x=w.heap.size):Blk (w.alloc (.cells l.toArray e)) x e l:=by subst hx;exact heap_alloc_new w _
structure Two (g b:Nat)(w w':World):Prop where
 os:w'.os=w.os
 tape:w'.tape=w.tape
 output:w'.output=w.output
 size:w.heap.size<=w'.heap.size
 block:∀ k,k<w.heap.size->k≠g->k≠b->w'.heap[k]? = w.heap[k]?
section
variable {w w' w2:World}{g b:Nat}
theorem Two.of (h:Below w.heap.size w w'):Two g b w w':=⟨h.os,h.tape,h.output,h.size,fun k hk _ _=>h.block k hk⟩
theorem Two.refl (g b:Nat)(w:World):Two g b w w:=Two.of (Below.refl _ _)
theorem Two.trans (h:Two g b w w')(k:Two g b w' w2):Two g b w w2:=
 ⟨k.os.trans h.os,k.tape.trans h.tape,k.output.trans h.output,Nat.le_trans h.size k.size,fun i hi h1 h2=>(k.block i (Nat.lt_of_lt_of_le hi h.size) h1 h2).trans (h.block i hi h1 h2)⟩
theorem Two.below {B:Nat}(h:Two g b w w')(hB:B<=w.heap.size)(hg:B<=g)(hb:B<=b):Below B w w':=⟨h.os,h.tape,h.output,h.size,fun k hk=>h.block k (by omega) (by omega) (by omega)⟩
theorem Blk.two {x:Nat}{e:TypeId}{l:List Value}(h:Blk w x e l)(t:Two g b w w')(h1:x≠g)(h2:x≠b):Blk w' x e l:=(t.block x h.lt h1 h2).trans h
end
theorem Two.undrew {g b:Nat}{w w':World}(h:Two g b w.drew w'):Two g b w w':=⟨h.os,h.tape,h.output,h.size,h.block⟩
end Go.Proofs.YtfffibepcdlldaaGreat

namespace Go.Proofs.YtfffibepcdlldaaGreat
open Go.ChangeShapes Go.WideShapes Go.ChangeAt Go.RowKit Go.Maps
open Go.WideElems (Fit rd rg pl rd_val rd_key rg_of)
namespace IS
def ptr:Option Nat->Value
 | none=>.pointer none
 | some g=>.pointer (some ⟨g,0,none⟩)
def PR:Value->Option (DataW Unit×List MemPlace)
 | .pointer none=>some (.nil,[])
 | .pointer (some ⟨g,0,none⟩)=>some (.lit (.int .i64 (g:Int)),[])
 | _=>none
def pd:Option Nat->DataW Unit
 | none=>.nil
 | some g=>.lit (.int .i64 (g:Int))
theorem PR_ptr (x:Option Nat):PR (ptr x)=some (pd x,[]):=by cases x <;> rfl
theorem PR_inv {v:Value}{x:Option Nat}{ps:List MemPlace}(h:PR v=some (pd x,ps)):v=ptr x:=by
 unfold PR at h
 split at h
 ·cases x with
  | none=>rfl
  | some g=>simp[pd] at h
 ·rename_i g
  cases x with
  | none=>simp[pd] at h
  | some g'=>
    simp only[pd,Option.some.injEq,Prod.mk.injEq,DataW.lit.injEq,Lit.int.injEq,true_and] at h;obtain⟨h,-⟩:=h;have:g=g':=by omega
    subst this;rfl
 ·cases h
theorem und_map:prog.underlying 78=some (.map 3 118):=by kernel_rfl
theorem und_int:prog.underlying 3=some (.int .i64):=by kernel_rfl
theorem keyed_int:Keyed prog 3:=int_keyed und_int
def key (f:Int):Lit:=.int .i64 f
def I64 (f:Int):Prop:=-9223372036854775808<=f/\f<=9223372036854775807
theorem i64_nat {f:Nat}(h:f<65536):I64 (f:Int):=⟨by omega,by omega⟩
theorem wf_i64 {f:Int}(h:I64 f):(Lit.int .i64 f).wf=true:=by
 unfold I64 at h;simp[Lit.wf,IntKind.min,IntKind.max,IntKind.signed,IntKind.bits];omega
theorem wf_bounds {x:Int}(h:(Lit.int .i64 x).wf=true):I64 x:=by
 simp[Lit.wf,IntKind.min,IntKind.max,IntKind.signed,IntKind.bits] at h;exact⟨by omega,by omega⟩
theorem key_of (f:Int)(h:I64 f):keyOf prog 3 (.int .i64 f)=some (key f):=keyOf_int_mk und_int (wf_i64 h)
theorem key_ne {f g:Int}(h:f≠g):key f≠key g:=by
 intro e;simp only[key,Lit.int.injEq,true_and] at e;exact h e
theorem isKey (f:Int)(h:I64 f):WideAt.IsKeyLit (key f):=keyed_int.key (key_of f h)
theorem zero_ptr (w:World):(zeroValue 118).run prog w=.ok (ptr none) w:=by kernel_rfl
theorem nodup_sub:∀ (l m:List Nat),l.Nodup->(∀ x∈l,x∈m)->l.length<=m.length
 | [],_,_,_=>Nat.zero_le _
 | a :: l,m,hn,h=>by
   have hn':=List.nodup_cons.1 hn;have h1:=nodup_sub l (m.erase a) hn'.2 (fun x hx=>by
    have hm:=h x (List.mem_cons_of_mem _ hx);exact (List.mem_erase_of_ne (fun e=>hn'.1 (by rw[<-e];exact hx))).2 hm)
   have ha:=h a List.mem_cons_self;rw[List.length_erase_of_mem ha] at h1;have:0<m.length:=List.length_pos_of_mem ha;simp only[List.length_cons]
   omega
theorem nodup_le (N:Nat)(l:List Nat)(h:l.Nodup)(hl:∀ x∈l,x<N):l.length<=N:=by
 have:=nodup_sub l (List.range N) h (fun x hx=>List.mem_range.2 (hl x hx));simpa using this
def Nums (M:Int->Option Nat)(ss:List Nat):Prop:=ss.Nodup/\∀ f:Nat,f∈ss↔M f≠none
theorem Nums.len_eq {M:Int->Option Nat}{a b:List Nat}(ha:Nums M a)(hb:Nums M b):a.length=b.length:=
 Nat.le_antisymm (nodup_sub a b ha.1 fun x hx=>(hb.2 x).2 ((ha.2 x).1 hx)) (nodup_sub b a hb.1 fun x hx=>(ha.2 x).2 ((hb.2 x).1 hx))
structure MB (w:World)(b:Nat)(M:Int->Option Nat):Prop where
 ex:∃ D:DataW Unit,w.ownsMap prog 3 PR b (Maps.size D) D/\(∀ f,I64 f->Maps.has D (key f)=(M f).isSome)/\(∀ f g,I64 f->M f=some g->∀ z,D.atKey (key f) z=pd (some g))
 bound:∀ f,M f≠none->0<=f/\f<65536
section
variable {w w':World}{b:Nat}{M:Int->Option Nat}
theorem Nums.lt {ss:List Nat}(h:Nums M ss)(hm:MB w b M):∀ f∈ss,f<65536:=fun f hf=>by have:=hm.bound f ((h.2 f).1 hf);omega
theorem Nums.len {ss:List Nat}(h:Nums M ss)(hm:MB w b M):ss.length<=65536:=nodup_le 65536 ss h.1 (h.lt hm)
theorem own_tight {n:Nat}{D:DataW Unit}(h:w.ownsMap prog 3 PR b n D):w.ownsMap prog 3 PR b (Maps.size D) D:=by
 obtain⟨es,clock,hb,F,hs,rfl⟩:=h;exact⟨es,clock,hb,F,by simp[Maps.size,length_sorted],rfl⟩
theorem own_nums {n:Nat}{D:DataW Unit}(h:w.ownsMap prog 3 PR b n D)(hf:∀ f,I64 f->Maps.has D (key f)=(M f).isSome)(hb:∀ f,M f≠none->0<=f/\f<65536):∃ ss,Nums M ss/\ss.length=Maps.size D:=by
 obtain⟨es0,rfl,hne,-⟩:=h.entries keyed_int;obtain⟨es,clock,hbk,F,hs,hD⟩:=h;simp only[DataW.map.injEq] at hD;have hk:∀ p∈es0,∃ f:Nat,f<65536/\p.1=key f/\M f≠none:=by
  intro p hp;have hp0:=hp;rw[hD] at hp;obtain⟨v,hv⟩:=fit_keys F p (mem_sorted.1 hp);obtain⟨x,rfl,hx,hwf⟩:=Maps.keyOf_int_inv und_int hv;have hI:=wf_bounds hwf;have hh:=hf x hI;have h1:Maps.has (DataW.map es0) (key x)=true:=by
   rw[Maps.has_eq];exact List.any_eq_true.2 ⟨p,hp0,by rw[hx];exact WideAt.sameKey_self (isKey x hI)⟩
  rw[h1] at hh;have hM:M x≠none:=fun e=>by rw[e] at hh;cases hh
  obtain⟨h2,h3⟩:=hb x hM;refine⟨x.toNat,by omega,?_,?_⟩
  ·rw[hx];simp only[key,Lit.int.injEq,true_and];omega
  ·rw[Int.toNat_of_nonneg h2];exact hM
 refine⟨es0.map fun p=>match p.1 with | .int _ x=>x.toNat|_=>0,⟨?_,fun f=>?_⟩,by simp[Maps.size]⟩
 ·unfold List.Nodup;rw[List.pairwise_map];refine hne.imp_of_mem ?_;intro p q hp hq hpq;obtain⟨f,-,e1,-⟩:=hk p hp;obtain⟨g,-,e2,-⟩:=hk q hq;rw[e1,e2] at hpq;rw[e1,e2];intro hfg
  apply hpq
  simp only[key,Int.toNat_natCast] at hfg;rw[hfg]
 ·rw[List.mem_map]
  constructor
  ·rintro ⟨p,hp,rfl⟩;obtain⟨f,hf1,e1,hM⟩:=hk p hp;rw[e1];simpa[key] using hM
  ·intro hM;have hbd:=hb f hM;have h1:=hf f (i64_nat (by omega));have h2:Maps.has (DataW.map es0) (key f)=true:=by
    rw[h1]
    cases e:M f with
    | none=>exact absurd e hM
    | some _=>rfl
   rw[Maps.has_eq] at h2;obtain⟨p,hp,hs⟩:=List.any_eq_true.1 h2;obtain⟨g,-,e1,-⟩:=hk p hp;refine⟨p,hp,?_⟩;rw[e1] at hs ⊢;simp only[key,Lit.sameKey] at hs;simp only[key,Int.toNat_natCast];simp at hs
   omega
theorem MB.congr (h:MB w b M){M':Int->Option Nat}(hM:∀ f,M f=M' f):MB w b M':=by
 obtain rfl:M=M':=funext hM;exact h
theorem MB.lt (h:MB w b M):b<w.heap.size:=by obtain⟨D,ho,_⟩:=h.ex;exact ho.lt
theorem MB.heap (h:MB w b M)(e:w'.heap[b]? = w.heap[b]?):MB w' b M:=by
 obtain⟨⟨D,⟨es,clock,hb,F,hs,hD⟩,h1,h2⟩,hbd⟩:=h;exact⟨⟨D,⟨es,clock,e.trans hb,F,hs,hD⟩,h1,h2⟩,hbd⟩
theorem MB.keep (h:MB w b M)(hb:Below w.heap.size w w'):MB w' b M:=h.heap (hb.block b h.lt)
theorem MB.far (h:MB w b M){p:Addr}(hp:b≠p.block)(u:Value):MB (w.setCell p u) b M:=h.heap (Below.heap_setCell w p u b hp)
theorem MB.alloc (h:MB w b M)(o:Obj):MB (w.alloc o) b M:=h.heap (Below.heap_alloc w o b h.lt)
theorem MB.drew (h:MB w b M)(t:Nat):MB (w.drewN t) b M:=h.heap rfl
theorem MB.look (h:MB w b M)(f:Int)(hf:I64 f) :
 (Instr.lookup 78 (.map (some b)) (.int .i64 f) false).run prog w=.ok (ptr (M f)) w:=by
 obtain⟨⟨D,ho,h1,h2⟩,hb⟩:=h;obtain⟨v,ps,hrun,hv⟩:=ho.lookup keyed_int und_map (zero_ptr w) (PR_ptr none) (key_of f hf);have e:v=ptr (M f):=by
  apply PR_inv (ps:=ps)
  rw[hv]
  cases hm:M f with
  | none=>have:=h1 f hf;rw[hm] at this;rw[Maps.atKey_of_not_has (by simpa using this)]
  | some g=>rw[h2 f g hf hm]
 rw[hrun,e]
theorem MB.count (h:MB w b M){ss:List Nat}(hs:Nums M ss)(ty:TypeId):(Builtin.len_ #[78] ty #[.map (some b)]).run prog w=.ok (.int .i64 (ss.length:Int)) w:=by
 obtain⟨⟨D,ho,h1,h2⟩,hb⟩:=h;obtain⟨ss',h3,h4⟩:=own_nums ho h1 hb;rw[ho.len und_map ty,<-h4,h3.len_eq hs]
def upd (M:Int->Option Nat)(f:Int)(x:Option Nat):Int->Option Nat:=fun g=>if g=f then x else M g
theorem MB.put (h:MB w b M)(f:Int)(g:Nat)(hf:0<=f/\f<65536) :
 ∃ w',(Instr.mapUpdate 78 (.map (some b)) (.int .i64 f) (.pointer (some ⟨g,0,none⟩))).run prog w=.ok () w'/\MB w' b (upd M f (some g))/\w.grownBy w' (some b)/\w'.heap.size=w.heap.size:=by
 obtain⟨⟨D,ho,h1,h2⟩,hb⟩:=h;have hf2:I64 f:=⟨by omega,by omega⟩;obtain⟨ss,hN,hL⟩:=own_nums ho h1 hb;have hsz:Maps.size D<=65536:=by
  rw[<-hL];exact nodup_le 65536 ss hN.1 fun x hx=>by have:=hb x ((hN.2 x).1 hx);omega
 obtain⟨w',hrun,ho',ht⟩:=ho.store keyed_int und_map (by unfold maxLen;omega) (key_of f hf2) (PR_ptr (some g));refine⟨w',hrun,⟨⟨_,own_tight ho',fun k hk=>?_,fun k vs hk hv z=>?_⟩,fun k hk=>?_⟩,ht.grown,?_⟩
 ·unfold upd
  by_cases e:k=f
  ·subst e;rw[if_pos rfl,Maps.has_put_same ho.isMap (isKey k hk)];rfl
  ·rw[if_neg e,Maps.has_put_other (key_ne e),h1 k hk]
 ·unfold upd at hv
  by_cases e:k=f
  ·subst e;rw[if_pos rfl] at hv;cases hv;exact Maps.atKey_put_same ho.isMap (isKey k hk) _ _
  ·rw[if_neg e] at hv;rw[Maps.atKey_put_other (key_ne e)];exact h2 k vs hk hv z
 ·unfold upd at hk
  by_cases e:k=f
  ·omega
  ·rw[if_neg e] at hk;exact hb k hk
 ·obtain⟨es,c,es',c',hbb,rfl⟩:=ht;simp[ChangeMaps.setBlock]
theorem MB.del (h:MB w b M)(f:Int)(hf:I64 f)(ty:TypeId) :
 ∃ w',(Builtin.delete_ #[78,3] ty #[.map (some b),.int .i64 f]).run prog w=.ok (.tuple #[]) w'/\MB w' b (upd M f none)/\w.grownBy w' (some b)/\w'.heap.size=w.heap.size:=by
 obtain⟨⟨D,ho,h1,h2⟩,hb⟩:=h;obtain⟨w',hrun,ho',ht⟩:=ho.drop keyed_int und_map (key_of f hf) ty;refine⟨w',hrun,⟨⟨_,own_tight ho',fun g hg=>?_,fun g vs hg hv z=>?_⟩,fun g hg=>?_⟩,ht.grown,?_⟩
 ·unfold upd
  by_cases e:g=f
  ·subst e;rw[if_pos rfl,Maps.has_del_same];rfl
  ·rw[if_neg e,Maps.has_del_other (key_ne e),h1 g hg]
 ·unfold upd at hv
  by_cases e:g=f
  ·rw[if_pos e] at hv;cases hv
  ·rw[if_neg e] at hv;rw[Maps.atKey_del_other (key_ne e)];exact h2 g vs hg hv z
 ·unfold upd at hg
  by_cases e:g=f
  ·rw[if_pos e] at hg;exact absurd rfl hg
  ·rw[if_neg e] at hg;exact hb g hg
 ·obtain⟨es,c,es',c',hbb,rfl⟩:=ht;simp[ChangeMaps.setBlock]
theorem MB.new (w:World):MB (w.alloc (.map #[] 0)) w.heap.size (fun _=>none):=
 ⟨⟨.map [],own_tight (World.ownsMap_made w _ _ PR),fun _ _=>rfl,fun _ _ _ h=>by cases h⟩,fun _ h=>absurd rfl h⟩
end
end IS
end Go.Proofs.YtfffibepcdlldaaGreat
