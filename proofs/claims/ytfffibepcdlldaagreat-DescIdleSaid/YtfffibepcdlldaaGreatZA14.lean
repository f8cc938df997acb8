/- A part. -/
import Derived.Test.YtfffibepcdlldaaGreatZA10
import Derived.Test.YtfffibepcdlldaaGreatZA08
set_option linter.unusedVariables false
set_option linter.unusedSimpArgs false
set_option maxRecDepth 100000
set_option maxHeartbeats 64000000
open Go.Proofs.Tryz

namespace Go.Proofs.YtfffibepcdlldaaGreat
open Go.ChangeShapes Go.WideShapes Go.ChangeAt Go.RowKit
namespace Own
section
variable {α β:Type}
theorem rows_len {c:Nat}:∀ {r:List (List β)},(∀ x∈r,x.length=c)->r.flatten.length=r.length*c
 | [],_=>by simp
 | x :: r,h=>by
   rw[List.flatten_cons,List.length_append,h x (by simp),rows_len (r:=r) (fun y hy=>h y (List.mem_cons_of_mem _ hy)),List.length_cons,Nat.add_mul];omega
theorem rows_get {c:Nat}:∀ {r:List (List β)},(∀ x∈r,x.length=c)->∀ (i:Nat) (hi:i<r.length) (m:Nat),m<c->r.flatten[i*c+m]? = r[i][m]?
 | [],_,i,hi,_,_=>by simp at hi
 | x :: r,h,0,_,m,hm=>by
   rw[List.flatten_cons,Nat.zero_mul,Nat.zero_add,List.getElem?_append_left (by rw[h x (by simp)];exact hm)];rfl
 | x :: r,h,i+1,hi,m,hm=>by
   have hx:=h x (by simp);have ih:=rows_get (r:=r) (fun y hy=>h y (List.mem_cons_of_mem _ hy)) i (by simpa using hi) m hm;rw[List.flatten_cons,List.getElem?_append_right (by rw[hx,Nat.add_mul];omega),hx];rw[show (i+1)*c+m-c=i*c+m by rw[Nat.add_mul];omega,ih]
   rfl
theorem rows_set {c:Nat}:∀ {r:List (List β)},(∀ x∈r,x.length=c)->∀ (i:Nat) (hi:i<r.length) (m:Nat) (u:β),m<c->r.flatten.set (i*c+m) u=(r.set i (r[i].set m u)).flatten
 | [],_,i,hi,_,_,_=>by simp at hi
 | x :: r,h,0,_,m,u,hm=>by
   have hx:=h x (by simp);rw[List.flatten_cons,Nat.zero_mul,Nat.zero_add,List.set_append_left _ _ (by rw[hx];exact hm)]
   rfl
 | x :: r,h,i+1,hi,m,u,hm=>by
   have hx:=h x (by simp);have ih:=rows_set (r:=r) (fun y hy=>h y (List.mem_cons_of_mem _ hy)) i (by simpa using hi) m u hm;rw[List.flatten_cons,List.set_append_right _ _ (by rw[hx,Nat.add_mul];omega),hx];rw[show (i+1)*c+m-c=i*c+m by rw[Nat.add_mul];omega,ih]
   rfl
theorem rows_take {c:Nat}:∀ {r:List (List β)},(∀ x∈r,x.length=c)->∀ k:Nat,r.flatten.take (k*c)=(r.take k).flatten
 | [],_,k=>by simp
 | x :: r,h,0=>by simp
 | x :: r,h,k+1=>by
   have hx:=h x (by simp);have ih:=rows_take (r:=r) (fun y hy=>h y (List.mem_cons_of_mem _ hy)) k;rw[List.flatten_cons,List.take_succ_cons,List.flatten_cons,<-ih];rw[List.take_append,List.take_of_length_le (by rw[hx,Nat.add_mul];omega),hx];rw[show (k+1)*c-c=k*c by rw[Nat.add_mul];omega]
theorem rows_drop {c:Nat}:∀ {r:List (List β)},(∀ x∈r,x.length=c)->∀ k:Nat,r.flatten.drop (k*c)=(r.drop k).flatten
 | [],_,k=>by simp
 | x :: r,h,0=>by simp
 | x :: r,h,k+1=>by
   have hx:=h x (by simp);have ih:=rows_drop (r:=r) (fun y hy=>h y (List.mem_cons_of_mem _ hy)) k;rw[List.flatten_cons,List.drop_succ_cons,<-ih];rw[List.drop_append,List.drop_of_length_le (by rw[hx,Nat.add_mul];omega),hx,List.nil_append];rw[show (k+1)*c-c=k*c by rw[Nat.add_mul];omega]
end
theorem cut_lo {P:Program}{t e:TypeId}{z:Value}{size bytes:Nat}(ht:P.underlying t=some (.slice e))(hel:P.elem t=e)(hinf:Own.Info P e z size bytes)(b o n cap k:Nat)(kk:Int)(hkk:kk=k)(hk:k<=n)(hn:n<=cap) :
 ∃ ad:Addr,(∀ W:World,(Instr.slice t (.slice (some ⟨b,o,none⟩) n cap) (some (.int .i64 kk)) none none).run P W=.ok (.slice (some ad) (n-k) (cap-k)) W)/\ad.block=b/\(0<n-k->ad=⟨b,o+k*size,none⟩):=by
 subst hkk;obtain⟨i,hi,hz,hsize,hby,hzs,hsz⟩:=hinf;have hs:∀ W:World,(sizeOf (P.elem t)).run P W=.ok size W:=fun W=>by rw[hel];simp[sizeOf,typeInfo,hi,hsize]
 by_cases hc:cap=k
 ·refine⟨⟨b,o,none⟩,fun W=>?_,rfl,fun h=>by omega⟩;have hr:=run_slice_l (P:=P) W t (some ⟨b,o,none⟩) n cap (by rw[hel];exact ht) .i64 (k:Int) (by omega) (by omega);rw[hs] at hr;simp only[Result.andThen,sliced,Int.toNat_natCast,if_pos hc] at hr;exact hr
 ·refine⟨⟨b,o+k*size,none⟩,fun W=>?_,rfl,fun _=>rfl⟩;have hr:=run_slice_l (P:=P) W t (some ⟨b,o,none⟩) n cap (by rw[hel];exact ht) .i64 (k:Int) (by omega) (by omega);rw[hs] at hr;simp only[Result.andThen,sliced,Int.toNat_natCast,if_neg hc,Option.map_some,Addr.add_lit] at hr;exact hr
theorem cut_hi {P:Program}{t e:TypeId}{z:Value}{size bytes:Nat}(ht:P.underlying t=some (.slice e))(hel:P.elem t=e)(hinf:Own.Info P e z size bytes)(a:Option Addr)(n cap k:Nat)(hk:k<=n)(hn:n<=cap)(ha:a=none∨∃ b o,a=some ⟨b,o,none⟩) :
 ∀ W:World,(Instr.slice t (.slice a n cap) none (some (.int .i64 (k:Int))) none).run P W=.ok (.slice a k cap) W:=by
 obtain⟨i,hi,hz,hsize,hby,hzs,hsz⟩:=hinf;intro W;have hs:(sizeOf (P.elem t)).run P W=.ok size W:=by rw[hel];simp[sizeOf,typeInfo,hi,hsize]
 have hr:=run_slice_h (P:=P) W t a n cap (by rw[hel];exact ht) .i64 (k:Int) (by omega) (by omega);rw[hs] at hr;simp only[Result.andThen,sliced,Int.toNat_natCast,Nat.zero_mul,Nat.sub_zero] at hr;rw[hr];rcases ha with rfl|⟨b,o,rfl⟩
 ·simp
 ·simp[Addr.add_lit]
theorem cut_none {P:Program}{t e:TypeId}{z:Value}{size bytes:Nat}(ht:P.underlying t=some (.slice e))(hel:P.elem t=e)(hinf:Own.Info P e z size bytes) :
 ∀ W:World,(Instr.slice t (.slice none 0 0) (some (.int .i64 0)) none none).run P W=.ok (.slice none 0 0) W:=by
 obtain⟨i,hi,hz,hsize,hby,hzs,hsz⟩:=hinf;intro W;have hs:(sizeOf (P.elem t)).run P W=.ok size W:=by rw[hel];simp[sizeOf,typeInfo,hi,hsize]
 have hr:=run_slice_l (P:=P) W t none 0 0 (by rw[hel];exact ht) .i64 0 (by omega) (by omega);rw[hs] at hr;simp only[Result.andThen,sliced,Int.toNat_zero] at hr;rw[hr];simp
theorem src_take {w:World}{base e size n:Nat}{v:Value}{xs:List Value}(h:w.ownsRow base e size v n xs){a:Option Addr}{cap:Nat}(hv:v=.slice a n cap)(k:Nat)(hk:k<=n):Own.Src w size (.slice a k cap) k (xs.take (k*size)):=by
 rcases h.2 with ⟨h1,h0⟩|⟨g,cap',cur,h1,hb,hg,hnc,hcm,hcs,htake⟩
 ·subst h0;obtain rfl:k=0:=by omega
  rw[hv] at h1;simp only[Value.slice.injEq] at h1;obtain⟨rfl,-,rfl⟩:=h1;exact .inl ⟨rfl,rfl,by simp⟩
 ·rw[hv] at h1;simp only[Value.slice.injEq,true_and] at h1;obtain⟨rfl,rfl⟩:=h1;refine .inr ⟨_,_,rfl,by rw[List.length_take,h.1];exact Nat.min_eq_left (Nat.mul_le_mul_right _ hk),fun j u hu=>?_⟩;rw[Addr.add_lit,Nat.zero_add,cell_of_row w g j cur e (0,0) hg];rw[List.getElem?_take] at hu
  split at hu
  ·rw[<-htake,List.getElem?_take] at hu
   split at hu
   ·simpa using hu
   ·cases hu
  ·cases hu
theorem src_drop {w:World}{base e size n:Nat}{b o cap:Nat}{xs:List Value}(h:w.ownsRow base e size (.slice (some ⟨b,o,none⟩) n cap) n xs)(k:Nat)(hk:k<=n)(ad:Addr)(c:Nat)(had:0<n-k->ad=⟨b,o+k*size,none⟩):Own.Src w size (.slice (some ad) (n-k) c) (n-k) (xs.drop (k*size)):=by
 have hlen:(xs.drop (k*size)).length=(n-k)*size:=by rw[List.length_drop,h.1,Nat.sub_mul]
 refine .inr ⟨_,_,rfl,hlen,fun j u hu=>?_⟩;rcases Nat.eq_zero_or_pos (n-k) with h0|h0
 ·rw[h0,Nat.zero_mul] at hlen;rw[List.eq_nil_of_length_eq_zero hlen] at hu;cases hu
 ·rw[had h0];rcases h.2 with ⟨h1,_⟩|⟨g,cap',cur,h1,hb,hg,hnc,hcm,hcs,htake⟩
  ·simp at h1
  ·simp only[Value.slice.injEq,Option.some.injEq,Addr.mk.injEq,and_true,true_and] at h1;obtain⟨⟨rfl,rfl⟩,rfl⟩:=h1;rw[Addr.add_lit,Nat.zero_add,cell_of_row w b _ cur e (0,0) hg];rw[List.getElem?_drop,<-htake,List.getElem?_take] at hu
   split at hu
   ·simpa using hu
   ·cases hu
end Own
namespace IN
def DT (_:Nat)(o:Obj):Prop:=(∃ c s,o=.cells c 122 s)∨∃ c s,o=.cells c 125 s
structure RE where
 n:Int
 kd:Int
 lk:Int
 op:Int
 sz:Int
 st:Int
 v:Value
def rrow (x:RE):List Value:=[.int .i64 x.n,.int .i64 x.kd,.int .i64 x.lk,.int .i64 x.op,.int .i64 x.sz,.int .i64 x.st,x.v]
def rcl (q:List RE):List Value:=(q.map rrow).flatten
theorem rrows (q:List RE):∀ x∈q.map rrow,x.length=7:=by
 intro x hx;obtain⟨y,-,rfl⟩:=List.mem_map.1 hx
 rfl
theorem rcl_len (q:List RE):(rcl q).length=q.length*7:=by unfold rcl;rw[Own.rows_len (rrows q),List.length_map]
theorem rcl_app (a b:List RE):rcl (a ++ b)=rcl a ++ rcl b:=by simp[rcl]
theorem rcl_one (x:RE):rcl [x]=rrow x:=by simp[rcl]
theorem rcl_take (q:List RE)(k:Nat):(rcl q).take (k*7)=rcl (q.take k):=by unfold rcl;rw[Own.rows_take (rrows q),List.map_take]
theorem rcl_drop (q:List RE)(k:Nat):(rcl q).drop (k*7)=rcl (q.drop k):=by unfold rcl;rw[Own.rows_drop (rrows q),List.map_drop]
theorem rcl_get (q:List RE)(i:Nat)(hi:i<q.length)(m:Nat)(hm:m<7):(rcl q)[i*7+m]? = (rrow q[i])[m]?:=by
 unfold rcl;rw[Own.rows_get (rrows q) i (by simpa using hi) m hm];simp
theorem rcl_set (q:List RE)(i:Nat)(hi:i<q.length)(m:Nat)(u:Value)(hm:m<7)(x:RE)(hx:(rrow q[i]).set m u=rrow x):(rcl q).set (i*7+m) u=rcl (q.set i x):=by
 unfold rcl;rw[Own.rows_set (rrows q) i (by simpa using hi) m u hm,List.getElem_map,hx,List.map_set]
structure EF (w:World)(x:RE)(y:Nat×Nd):Prop where
 n:x.n=(y.1:Int)
 kd:x.kd=y.2.kind
 lk:x.lk=y.2.links
 op:x.op=y.2.opens
 sz:x.sz=y.2.size
 st:x.st=(EM.cnt y.2.l:Int)
 v:XE w x.v y.2.l
def Fits (w:World):List RE->List (Nat×Nd)->Prop
 | [],[]=>True
 | x :: q,y :: l=>EF w x y/\Fits w q l
 | _,_=>False
section
variable {w w':World}
theorem Fits.len:∀ {q:List RE} {l:List (Nat×Nd)},Fits w q l->q.length=l.length
 | [],[],_=>rfl
 | x :: q,y :: l,h=>by rw[List.length_cons,List.length_cons,Fits.len h.2]
 | [],y :: l,h=>h.elim
 | x :: q,[],h=>h.elim
theorem Fits.app:∀ {q:List RE} {l:List (Nat×Nd)} {q':List RE} {l':List (Nat×Nd)},Fits w q l->Fits w q' l'->Fits w (q ++ q') (l ++ l')
 | [],[],_,_,_,h'=>h'
 | x :: q,y :: l,_,_,h,h'=>⟨h.1,Fits.app h.2 h'⟩
 | [],y :: l,_,_,h,_=>h.elim
 | x :: q,[],_,_,h,_=>h.elim
theorem Fits.take:∀ {q:List RE} {l:List (Nat×Nd)} (k:Nat),Fits w q l->Fits w (q.take k) (l.take k)
 | _,_,0,_=>by rw[List.take_zero,List.take_zero];trivial
 | [],[],k+1,_=>trivial
 | x :: q,y :: l,k+1,h=>⟨h.1,Fits.take k h.2⟩
 | [],y :: l,k+1,h=>h.elim
 | x :: q,[],k+1,h=>h.elim
theorem Fits.drop:∀ {q:List RE} {l:List (Nat×Nd)} (k:Nat),Fits w q l->Fits w (q.drop k) (l.drop k)
 | _,_,0,h=>h
 | [],[],k+1,_=>trivial
 | x :: q,y :: l,k+1,h=>Fits.drop k h.2
 | [],y :: l,k+1,h=>h.elim
 | x :: q,[],k+1,h=>h.elim
theorem Fits.set:∀ {q:List RE} {l:List (Nat×Nd)} (i:Nat) {x:RE} {y:Nat×Nd},Fits w q l->EF w x y->Fits w (q.set i x) (l.set i y)
 | [],[],_,_,_,_,_=>trivial
 | a :: q,b :: l,0,_,_,h,hx=>⟨hx,h.2⟩
 | a :: q,b :: l,i+1,_,_,h,hx=>⟨h.1,Fits.set i h.2 hx⟩
 | [],y :: l,_,_,_,h,_=>h.elim
 | x :: q,[],_,_,_,h,_=>h.elim
theorem Fits.at_:∀ {q:List RE} {l:List (Nat×Nd)} (i:Nat) (hi:i<q.length) (hl:i<l.length),Fits w q l->EF w q[i] l[i]
 | x :: q,y :: l,0,_,_,h=>h.1
 | x :: q,y :: l,i+1,hi,hl,h=>Fits.at_ i (by simpa using hi) (by simpa using hl) h.2
theorem EF.move {x:RE}{y:Nat×Nd}(h:EF w x y)(hk:∀ (b:Nat) cur,w.heap[b]? = some (.cells cur 211 (0,0))->w'.heap[b]? = w.heap[b]?):EF w' x y:=⟨h.n,h.kd,h.lk,h.op,h.sz,h.st,h.v.move hk⟩
theorem Fits.move:∀ {q:List RE} {l:List (Nat×Nd)},Fits w q l->(∀ (b:Nat) cur,w.heap[b]? = some (.cells cur 211 (0,0))->w'.heap[b]? = w.heap[b]?)->Fits w' q l
 | [],[],_,_=>trivial
 | x :: q,y :: l,h,hk=>⟨h.1.move hk,Fits.move h.2 hk⟩
 | [],y :: l,h,_=>h.elim
 | x :: q,[],h,_=>h.elim
theorem Fits.keep {q:List RE}{l:List (Nat×Nd)}(h:Fits w q l)(hb:Below w.heap.size w w'):Fits w' q l:=h.move fun b cur hc=>hb.block b (lt_of_some hc)
theorem Fits.keeps {q:List RE}{l:List (Nat×Nd)}(h:Fits w q l){B:Nat}{T:Nat->Obj->Prop}(hK:Keeps B T w w')(hT:∀ k c,¬ T k (.cells c 211 (0,0))):Fits w' q l:=h.move fun b cur hb=>(hK.block b _ hb (hT b cur)).trans hb.symm
theorem rrow_one {x:RE}(hv:x.v.oneCell'=true):∀ u∈rrow x,u.oneCell'=true:=by
 intro u hu;simp only[rrow,List.mem_cons,List.not_mem_nil,or_false] at hu;rcases hu with rfl|rfl|rfl|rfl|rfl|rfl|rfl <;> first|rfl|exact hv
theorem XE.one {v:Value}{l:List (Int×ByteArray)}(h:XE w v l):v.oneCell'=true:=by
 obtain⟨ao,n,c,rfl,-⟩:=h
 rfl
theorem Fits.one {q:List RE}{l:List (Nat×Nd)}(h:Fits w q l):∀ u∈rcl q,u.oneCell'=true:=by
 induction q generalizing l with
 | nil=>intro u hu;simp[rcl] at hu
 | cons x q ih=>
   cases l with
   | nil=>exact h.elim
   | cons y l=>
     intro u hu;have e:rcl (x :: q)=rrow x ++ rcl q:=by simp[rcl]
     rw[e,List.mem_append] at hu;rcases hu with hu|hu
     ·exact rrow_one h.1.v.one u hu
     ·exact ih h.2 u hu
end
theorem info_ino:Own.Info prog 125 (.agg #[.int .i64 0,.int .i64 0,.int .i64 0,.int .i64 0,.int .i64 0,.int .i64 0,.slice none 0 0]) 7 72:=Own.info_of (by kernel_rfl) rfl (by decide)
theorem elem_ino:prog.elem 120=125:=by kernel_rfl
structure RM (base:Nat)(w:World)(rg:Nat)(I B L z3 z4 z5 z6:Int)(v:Value)(q:List RE):Prop where
 box:Blk w rg 122 [.int .i64 I,.int .i64 B,.int .i64 L,.int .i64 z3,.int .i64 z4,.int .i64 z5,.int .i64 z6,v]
 row:w.ownsRow base 125 7 v q.length (rcl q)
 ge:base<=rg
section
variable {base:Nat}{w w':World}{rg:Nat}{I B L z3 z4 z5 z6:Int}{v:Value}{q:List RE}
theorem RM.low (h:RM base w rg I B L z3 z4 z5 z6 v q):base<=w.heap.size:=Nat.le_trans h.ge (Nat.le_of_lt h.box.lt)
theorem RM.keep (h:RM base w rg I B L z3 z4 z5 z6 v q)(hb:Below w.heap.size w w'):RM base w' rg I B L z3 z4 z5 z6 v q:=⟨h.box.keep hb,Own.below h.row hb,h.ge⟩
theorem RM.keeps (h:RM base w rg I B L z3 z4 z5 z6 v q){C:Nat}{T:Nat->Obj->Prop}(hK:Keeps C T w w')(h1:∀ k c s,¬ T k (.cells c 122 s))(h2:∀ k c s,¬ T k (.cells c 125 s)):RM base w' rg I B L z3 z4 z5 z6 v q:=by
 refine⟨hK.block _ _ h.box (h1 _ _ _),?_,h.ge⟩;rcases h.row.2 with h0|⟨g,cap,cur,e1,e2,e3,e4⟩
 ·exact⟨h.row.1,.inl h0⟩
 ·exact⟨h.row.1,.inr ⟨g,cap,cur,e1,e2,hK.block _ _ e3 (h2 _ _ _),e4⟩⟩
theorem RM.el (h:RM base w rg I B L z3 z4 z5 z6 v q){i:Nat}(hi:i<q.length):∃ g cap,v=.slice (some ⟨g,0,none⟩) q.length cap/\base<=g/\g<w.heap.size/\g≠rg/\q.length<=cap/\cap<=maxLen/\(∀ j,w.frozen? ⟨g,j,none⟩=false)/\∀ m u,(rrow q[i])[m]? = some u->w.cell? ⟨g,i*7+m,none⟩=some u:=by
 have hr:=h.row;rcases hr.2 with ⟨rfl,h0⟩|⟨g,cap,cur,rfl,hb,hg,h1,h2,h3,h4⟩
 ·omega
 ·refine⟨g,cap,rfl,hb,lt_of_some hg,?_,h1,h2,fun j=>hr.frozenAt j,fun m u hu=>?_⟩
  ·rintro rfl;have hx:=h.box;unfold Blk at hx;rw[hx] at hg;simp only[Option.some.injEq,Obj.cells.injEq] at hg;exact absurd hg.2.1 (by decide)
  ·have hm:m<7:=by
    rcases Nat.lt_or_ge m 7 with hlt|hge
    ·exact hlt
    ·rw[List.getElem?_eq_none (by simp[rrow];omega)] at hu;cases hu
   have:=hr.cells (g:=g) rfl (i*7+m) u (by rw[rcl_get q i hi m hm];exact hu);rw[Addr.add_lit,Nat.zero_add] at this;exact this
theorem RM.set {g cap N:Nat}(h:RM base w rg I B L z3 z4 z5 z6 (.slice (some ⟨g,0,none⟩) N cap) q)(hN:q.length=N){i:Nat}(hi:i<q.length)(m:Nat)(u:Value)(hm:m<7)(x:RE)(hx:(rrow q[i]).set m u=rrow x) :
 RM base (w.setCell ⟨g,i*7+m,none⟩ u) rg I B L z3 z4 z5 z6 (.slice (some ⟨g,0,none⟩) N cap) (q.set i x)/\Keeps base DT w (w.setCell ⟨g,i*7+m,none⟩ u):=by
 subst hN;obtain⟨g',cap',e,hb,hlt,hne,-⟩:=h.el hi;simp only[Value.slice.injEq,Option.some.injEq,Addr.mk.injEq,and_true,true_and] at e;obtain⟨rfl,rfl⟩:=e;have hs:=(h.row.stored (i*7+m) u).1;rw[rcl_set q i hi m u hm x hx] at hs;refine⟨⟨h.box.far (p:=⟨g,i*7+m,none⟩) (fun e=>hne e.symm) u,by rw[List.length_set];exact hs,h.ge⟩,?_⟩;rcases h.row.2 with ⟨e,_⟩|⟨g',cap',cur,e,_,hg,_⟩
 ·simp at e
 ·simp only[Value.slice.injEq,Option.some.injEq,Addr.mk.injEq,and_true,true_and] at e;obtain⟨rfl,rfl⟩:=e;exact (Keeps.refl base DT w).setCell (p:=⟨g,i*7+m,none⟩) hg (.inr ⟨_,_,rfl⟩) hb u
theorem RM.newRow {w1:World}(h:RM base w rg I B L z3 z4 z5 z6 v q)(hb:Below w.heap.size w w1){v':Value}{q':List RE}(ho:w1.ownsRow w.heap.size 125 7 v' q'.length (rcl q')) :
 RM base (w1.setCell ⟨rg,7,none⟩ v') rg I B L z3 z4 z5 z6 v' q'/\Keeps base DT w (w1.setCell ⟨rg,7,none⟩ v'):=by
 have h1:=h.keep hb;have hlt:=h.box.lt;refine⟨⟨h1.box.set 7 v',Own.low h.low (Own.set ho (p:=⟨rg,7,none⟩) hlt v'),h.ge⟩,?_⟩;exact (Keeps.new hb h.low).trans ((Keeps.refl base DT w1).setCell (p:=⟨rg,7,none⟩) h1.box (.inl ⟨_,_,rfl⟩) h.ge v')
end
def RS (base:Nat)(w:World)(rg:Nat)(I B L:Int)(l:List (Nat×Nd)):Prop:=∃ z3 z4 z5 z6 v q,RM base w rg I B L z3 z4 z5 z6 v q/\Fits w q l
section
variable {base:Nat}{w w':World}{rg:Nat}{I B L:Int}{l:List (Nat×Nd)}
theorem RS.keep (h:RS base w rg I B L l)(hb:Below w.heap.size w w'):RS base w' rg I B L l:=by
 obtain⟨z3,z4,z5,z6,v,q,h1,h2⟩:=h;exact⟨z3,z4,z5,z6,v,q,h1.keep hb,h2.keep hb⟩
theorem RS.keeps (h:RS base w rg I B L l){C:Nat}{T:Nat->Obj->Prop}(hK:Keeps C T w w')(h1:∀ k c s,¬ T k (.cells c 122 s))(h2:∀ k c s,¬ T k (.cells c 125 s))(h3:∀ k c,¬ T k (.cells c 211 (0,0))):RS base w' rg I B L l:=by
 obtain⟨z3,z4,z5,z6,v,q,k1,k2⟩:=h;exact⟨z3,z4,z5,z6,v,q,k1.keeps hK h1 h2,k2.keeps hK h3⟩
theorem RS.low (h:RS base w rg I B L l):base<=w.heap.size:=by obtain⟨_,_,_,_,_,_,h1,_⟩:=h;exact h1.low
end
def ROut (base rg:Nat)(I B L:Int)(w:World)(r:Int)(l:List (Nat×Nd))(e:Ending)(w':World):Prop:=e=.returned (.int .i64 r)/\RS base w' rg I B L l/\Keeps base DT w w'
section
variable {I L B k:Nat}{S:Int->Option Nd}
theorem pl_none {n:Int}(hf:Fine I L B k S)(hS:S n=none):∀ j (hj:j<(lst S I).length),((lst S I)[j].1:Int)≠n:=by
 intro j hj e;have:=(mem_lst.1 (List.getElem_mem hj)).2.2;rw[e,hS] at this;cases this
theorem pl_some {n:Int}{d:Nd}(hf:Fine I L B k S)(hS:S n=some d):∃ (p m:Nat),n=(m:Int)/\1<=m/\m<=I/\p<(lst S I).length/\(∀ hp:p<(lst S I).length,(lst S I)[p]=(m,d))/\(∀ j (hj:j<(lst S I).length),j<p->((lst S I)[j].1:Int)≠n) /\
 (∀ d',lst (upd S n (some d')) I=(lst S I).set p (m,d'))/\lst (upd S n none) I=(lst S I).take p ++ (lst S I).drop (p+1):=by
 have hb:=hf.num n (by rw[hS];simp);obtain⟨m,rfl⟩:∃ m:Nat,n=m:=⟨n.toNat,by omega⟩;have h1:1<=m:=by omega
 have h2:m<=I:=by omega
 have hsp:=split S m I h1 h2;rw[hS] at hsp;simp only[Option.map_some,Option.toList_some] at hsp;have hlen:(lo S m).length<(lst S I).length:=by rw[hsp];simp
 have hat:∀ hp:(lo S m).length<(lst S I).length,(lst S I)[(lo S m).length]=(m,d):=fun hp=>by
  simp only[hsp];rw[List.getElem_append_left (by simp),List.getElem_append_right (Nat.le_refl _)];simp
 refine⟨(lo S m).length,m,rfl,h1,h2,hlen,hat,fun j hj hjp=>?_,fun d'=>?_,?_⟩
 ·have:=List.pairwise_iff_getElem.1 (lst_rise S I) j _ hj hlen hjp;rw[hat hlen] at this;simp only at this
  omega
 ·rw[lst_upd S m I _ h1 h2,hsp];simp only[Option.map_some,Option.toList_some];rw[List.set_append_left _ _ (by simp),List.set_append_right _ _ (Nat.le_refl _)];simp
 ·rw[lst_upd S m I _ h1 h2,hsp];simp only[Option.map_none,Option.toList_none,List.append_nil];rw[List.append_assoc (lo S m),List.take_left',List.drop_append]
  ·simp
  ·rfl
theorem pl_new {m:Nat}{d:Nd}(h1:1<=m)(h2:m<=I)(hS:S (m:Int)=none):lst (upd S (m:Int) (some d)) I=(lst S I).take (lo S m).length ++ (m,d) :: (lst S I).drop (lo S m).length:=by
 have hsp:=split S m I h1 h2;rw[hS] at hsp;simp only[Option.map_none,Option.toList_none,List.append_nil] at hsp;rw[lst_upd S m I _ h1 h2,hsp];simp
end
end IN
end Go.Proofs.YtfffibepcdlldaaGreat
