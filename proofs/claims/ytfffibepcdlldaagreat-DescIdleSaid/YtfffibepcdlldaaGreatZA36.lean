/- A part. -/
import Derived.Test.YtfffibepcdlldaaGreatZA32
import Derived.Test.YtfffibepcdlldaaGreatZA14
import Derived.Test.YtfffibepcdlldaaGreatZA33
import Derived.BigQuiet
set_option linter.unusedVariables false
set_option linter.unusedSimpArgs false
set_option maxRecDepth 100000
set_option maxHeartbeats 64000000
open Go.Proofs.Tryz

namespace Go.Proofs.YtfffibepcdlldaaGreat
open Go.ChangeShapes Go.WideShapes Go.ChangeAt Go.RowKit
namespace RD
open DC (Of Ls Ps Ou lk)
open IN (Keeps lt_of_some)
structure Cd where
 base:Nat
 d:Nat
 rt:Nat
 rg:Nat
 I:Nat
 B:Nat
 L:Nat
 files:Nat
 opens:Nat
 pr:Int
 fr:Int
structure PE where
 pid:Int
 g:Nat
 cap:Nat
 L:Ls
def cd (x:Option Nat):Int:=match x with
 | none=>-1
 | some k=>(k:Int)
def orow (x:Of):List Value:=[.int .i64 x.ino,.int .i64 x.off,.int .i64 x.flags,.int .i64 x.refs]
def ocl (q:List Of):List Value:=(q.map orow).flatten
theorem orows (q:List Of):∀ x∈q.map orow,x.length=4:=by
 intro x hx;obtain⟨y,-,rfl⟩:=List.mem_map.1 hx
 rfl
theorem ocl_app (a b:List Of):ocl (a ++ b)=ocl a ++ ocl b:=by simp[ocl]
theorem ocl_one (x:Of):ocl [x]=orow x:=by simp[ocl]
theorem ocl_get (q:List Of)(i:Nat)(hi:i<q.length)(m:Nat)(hm:m<4):(ocl q)[i*4+m]? = (orow q[i])[m]?:=by
 unfold ocl;rw[Own.rows_get (orows q) i (by simpa using hi) m hm];simp
theorem ocl_set (q:List Of)(i:Nat)(hi:i<q.length)(m:Nat)(u:Value)(hm:m<4)(x:Of)(hx:(orow q[i]).set m u=orow x):(ocl q).set (i*4+m) u=ocl (q.set i x):=by
 unfold ocl;rw[Own.rows_set (orows q) i (by simpa using hi) m u hm,List.getElem_map,hx,List.map_set]
def pval (x:PE):Value:=.slice (some ⟨x.g,0,none⟩) x.L.length x.cap
def prow (x:PE):List Value:=[.int .i64 x.pid,pval x]
def pcl (q:List PE):List Value:=(q.map prow).flatten
theorem prows (q:List PE):∀ x∈q.map prow,x.length=2:=by
 intro x hx;obtain⟨y,-,rfl⟩:=List.mem_map.1 hx
 rfl
theorem pcl_len (q:List PE):(pcl q).length=q.length*2:=by unfold pcl;rw[Own.rows_len (prows q),List.length_map]
theorem pcl_app (a b:List PE):pcl (a ++ b)=pcl a ++ pcl b:=by simp[pcl]
theorem pcl_one (x:PE):pcl [x]=prow x:=by simp[pcl]
theorem pcl_take (q:List PE)(k:Nat):(pcl q).take (k*2)=pcl (q.take k):=by unfold pcl;rw[Own.rows_take (prows q),List.map_take]
theorem pcl_drop (q:List PE)(k:Nat):(pcl q).drop (k*2)=pcl (q.drop k):=by unfold pcl;rw[Own.rows_drop (prows q),List.map_drop]
theorem pcl_get (q:List PE)(i:Nat)(hi:i<q.length)(m:Nat)(hm:m<2):(pcl q)[i*2+m]? = (prow q[i])[m]?:=by
 unfold pcl;rw[Own.rows_get (prows q) i (by simpa using hi) m hm];simp
theorem pcl_set (q:List PE)(i:Nat)(hi:i<q.length)(L:Ls)(hL:L.length=q[i].L.length):pcl (q.set i { q[i] with L:=L })=pcl q:=by
 unfold pcl
 congr 1
 rw[List.map_set];refine List.ext_getElem (by simp) fun j h1 h2=>?_;rw[List.getElem_set]
 split
 ·rename_i e
  subst e;simp[prow,pval,hL]
 ·rfl
def lcl (L:Ls):List Value:=L.map fun x=>.int .i64 (cd x)
theorem lcl_len (L:Ls):(lcl L).length=L.length:=by simp[lcl]
theorem lcl_get {L:Ls}{j:Nat}{x:Option Nat}(h:L[j]? = some x):(lcl L)[j]? = some (.int .i64 (cd x)):=by simp[lcl,h]
theorem lcl_set (L:Ls)(j:Nat)(x:Option Nat):(lcl L).set j (.int .i64 (cd x))=lcl (L.set j x):=by simp[lcl,List.map_set]
def OT (_:Nat)(o:Obj):Prop:=∃ c ty s,o=.cells c ty s/\(ty=55∨ty=160∨ty=108∨ty=3)
theorem own_move {w w':World}{base:Nat}{e:TypeId}{size:Nat}{v:Value}{n:Nat}{xs:List Value}(h:w.ownsRow base e size v n xs)(hk:∀ g cur,v.ownBlock=some g->w.heap[g]? = some (.cells cur e (0,0))->w'.heap[g]? = w.heap[g]?):w'.ownsRow base e size v n xs:=by
 refine⟨h.1,?_⟩;rcases h.2 with h0|⟨g,cap,cur,e1,e2,e3,e4⟩
 ·exact .inl h0
 ·exact .inr ⟨g,cap,cur,e1,e2,(hk g _ (by rw[e1];rfl) e3).trans e3,e4⟩
structure QT (K:Cd)(vo vp:Value)(qo:List Of)(qp:List PE)(w:World):Prop where
 box:Blk w K.d 55 [.pointer (some ⟨K.rg,0,none⟩),.pointer (some ⟨K.rt,0,none⟩),.int .i64 (K.I:Int),.int .i64 (K.B:Int),.int .i64 (K.L:Int),.int .i64 (K.files:Int),.int .i64 (K.opens:Int),.int .i64 K.pr,.int .i64 K.fr,vo,vp]
 ro:w.ownsRow K.base 160 4 vo qo.length (ocl qo)
 rp:w.ownsRow K.base 108 2 vp qp.length (pcl qp)
 rl:∀ x∈qp,w.ownsRow K.base 3 1 (pval x) x.L.length (lcl x.L)
 dis:(qp.map (·.g)).Nodup
 ge:K.base<=K.d
section
variable {K:Cd}{vo vp:Value}{qo:List Of}{qp:List PE}{w w':World}
theorem QT.low (h:QT K vo vp qo qp w):K.base<=w.heap.size:=Nat.le_trans h.ge (Nat.le_of_lt h.box.lt)
theorem QT.keep (h:QT K vo vp qo qp w)(hb:Below w.heap.size w w'):QT K vo vp qo qp w':=⟨h.box.keep hb,Own.below h.ro hb,Own.below h.rp hb,fun x hx=>Own.below (h.rl x hx) hb,h.dis,h.ge⟩
theorem QT.keeps (h:QT K vo vp qo qp w){C:Nat}{T:Nat->Obj->Prop}(hK:Keeps C T w w')(h1:∀ k c ty s,(ty=55∨ty=160∨ty=108∨ty=3)->¬ T k (.cells c ty s)):QT K vo vp qo qp w':=
 ⟨hK.block _ _ h.box (h1 _ _ _ _ (.inl rfl)),own_move h.ro fun g cur _ e=>(hK.block _ _ e (h1 _ _ _ _ (.inr (.inl rfl)))).trans e.symm,own_move h.rp fun g cur _ e=>(hK.block _ _ e (h1 _ _ _ _ (.inr (.inr (.inl rfl))))).trans e.symm,fun x hx=>own_move (h.rl x hx) fun g cur _ e=>(hK.block _ _ e (h1 _ _ _ _ (.inr (.inr (.inr rfl))))).trans e.symm,h.dis,h.ge⟩
theorem own_ne {w:World}{base e size:Nat}{g:Nat}{v:Value}{n:Nat}{xs:List Value}{f:TypeId}{l:List Value}{k:Nat}(h:w.ownsRow base e size v n xs)(hb:Blk w k f l)(hef:e≠f)(hv:v.ownBlock=some g):g≠k:=by
 rintro rfl;rcases h.2 with ⟨rfl,-⟩|⟨g',cap,cur,rfl,-,hg,-⟩
 ·cases hv
 ·cases hv
  unfold Blk at hb;rw[hb] at hg;simp only[Option.some.injEq,Obj.cells.injEq] at hg;exact hef hg.2.1.symm
theorem QT.atO (h:QT K vo vp qo qp w){i:Nat}(hi:i<qo.length):∃ g cap,vo=.slice (some ⟨g,0,none⟩) qo.length cap/\K.base<=g/\g<w.heap.size/\g≠K.d/\qo.length<=cap/\cap<=maxLen/\(∀ j,w.frozen? ⟨g,j,none⟩=false)/\w.cell? ⟨g,i*4,none⟩=some (.int .i64 qo[i].ino)/\w.cell? ⟨g,i*4+1,none⟩=some (.int .i64 qo[i].off)/\w.cell? ⟨g,i*4+2,none⟩=some (.int .i64 qo[i].flags)/\w.cell? ⟨g,i*4+3,none⟩=some (.int .i64 qo[i].refs):=by
 have hr:=h.ro;rcases hr.2 with ⟨rfl,h0⟩|⟨g,cap,cur,rfl,hb,hg,h1,h2,h3,h4⟩
 ·omega
 ·have hc:∀ m u,m<4->(orow qo[i])[m]? = some u->w.cell? ⟨g,i*4+m,none⟩=some u:=fun m u hm hu=>by
   have:=hr.cells (g:=g) rfl (i*4+m) u (by rw[ocl_get qo i hi m hm];exact hu);rw[Addr.add_lit,Nat.zero_add] at this;exact this
  exact⟨g,cap,rfl,hb,lt_of_some hg,own_ne hr h.box (by decide) rfl,h1,h2,fun j=>hr.frozenAt j,hc 0 _ (by decide) rfl,hc 1 _ (by decide) rfl,hc 2 _ (by decide) rfl,hc 3 _ (by decide) rfl⟩
theorem QT.atP (h:QT K vo vp qo qp w){i:Nat}(hi:i<qp.length):∃ g cap,vp=.slice (some ⟨g,0,none⟩) qp.length cap/\K.base<=g/\g<w.heap.size/\g≠K.d/\qp.length<=cap/\cap<=maxLen/\(∀ j,w.frozen? ⟨g,j,none⟩=false)/\w.cell? ⟨g,i*2,none⟩=some (.int .i64 qp[i].pid)/\w.cell? ⟨g,i*2+1,none⟩=some (pval qp[i]):=by
 have hr:=h.rp;rcases hr.2 with ⟨rfl,h0⟩|⟨g,cap,cur,rfl,hb,hg,h1,h2,h3,h4⟩
 ·omega
 ·have hc:∀ m u,m<2->(prow qp[i])[m]? = some u->w.cell? ⟨g,i*2+m,none⟩=some u:=fun m u hm hu=>by
   have:=hr.cells (g:=g) rfl (i*2+m) u (by rw[pcl_get qp i hi m hm];exact hu);rw[Addr.add_lit,Nat.zero_add] at this;exact this
  exact⟨g,cap,rfl,hb,lt_of_some hg,own_ne hr h.box (by decide) rfl,h1,h2,fun j=>hr.frozenAt j,hc 0 _ (by decide) rfl,hc 1 _ (by decide) rfl⟩
theorem QT.atL (h:QT K vo vp qo qp w){i:Nat}(hi:i<qp.length):K.base<=qp[i].g/\qp[i].g<w.heap.size/\qp[i].g≠K.d/\qp[i].L.length<=qp[i].cap/\qp[i].cap<=maxLen/\(∀ j,w.frozen? ⟨qp[i].g,j,none⟩=false)/\∀ j x,qp[i].L[j]? = some x->w.cell? ⟨qp[i].g,j,none⟩=some (.int .i64 (cd x)):=by
 have hr:=h.rl _ (List.getElem_mem hi);have hb:=hr.lt _ rfl;rcases hr.2 with ⟨e,-⟩|⟨g,cap,cur,e,-,hg,h1,h2,-⟩
 ·cases e
 ·simp only[pval,Value.slice.injEq,Option.some.injEq,Addr.mk.injEq,and_true,true_and] at e;obtain⟨e1,e2⟩:=e;refine⟨hb.1,hb.2,own_ne hr h.box (by decide) rfl,by omega,by omega,fun j=>hr.frozenAt j,fun j x hx=>?_⟩;have:=hr.cells (g:=qp[i].g) rfl j _ (lcl_get hx);rw[Addr.add_lit,Nat.zero_add] at this;exact this
theorem own_far {w:World}{base base':Nat}{e e':TypeId}{s s':Nat}{v v':Value}{n n':Nat}{xs xs':List Value}{g g':Nat}(h:w.ownsRow base e s v n xs)(h':w.ownsRow base' e' s' v' n' xs')(hef:e≠e')(hv:v.ownBlock=some g)(hv':v'.ownBlock=some g'):g≠g':=by
 rintro rfl;rcases h.2 with ⟨rfl,-⟩|⟨g1,cap,cur,rfl,-,hg,-⟩
 ·cases hv
 ·cases hv
  rcases h'.2 with ⟨rfl,-⟩|⟨g2,cap',cur',rfl,-,hg',-⟩
  ·cases hv'
  ·cases hv'
   rw[hg] at hg';simp only[Option.some.injEq,Obj.cells.injEq] at hg';exact hef hg'.2.1
theorem own_setFar {w:World}{base:Nat}{e:TypeId}{s:Nat}{v:Value}{n:Nat}{xs:List Value}(h:w.ownsRow base e s v n xs){p:Addr}(hp:∀ g,v.ownBlock=some g->g≠p.block)(u:Value):(w.setCell p u).ownsRow base e s v n xs:=own_move h fun g cur hg _=>Below.heap_setCell w p u g (hp g hg)
theorem QT.setO {g cap N:Nat}(h:QT K (.slice (some ⟨g,0,none⟩) N cap) vp qo qp w){i:Nat}(hi:i<qo.length)(m:Nat)(u:Value)(hm:m<4)(x:Of)(hx:(orow qo[i]).set m u=orow x) :
 QT K (.slice (some ⟨g,0,none⟩) N cap) vp (qo.set i x) qp (w.setCell ⟨g,i*4+m,none⟩ u)/\Keeps K.base OT w (w.setCell ⟨g,i*4+m,none⟩ u):=by
 obtain⟨g',cap',e,hb,hlt,hne,-⟩:=h.atO hi;simp only[Value.slice.injEq,Option.some.injEq,Addr.mk.injEq,and_true,true_and] at e;obtain⟨rfl,rfl,rfl⟩:=e;have hs:=(h.ro.stored (i*4+m) u).1;rw[ocl_set qo i hi m u hm x hx] at hs;refine⟨⟨h.box.far (p:=⟨g,i*4+m,none⟩) (fun e=>hne e.symm) u,by rw[List.length_set];exact hs,own_setFar h.rp (p:=⟨g,i*4+m,none⟩) (fun k hk=>own_far h.rp h.ro (by decide) hk rfl) u,fun y hy=>own_setFar (h.rl y hy) (p:=⟨g,i*4+m,none⟩) (fun k hk=>own_far (h.rl y hy) h.ro (by decide) hk rfl) u,h.dis,h.ge⟩,?_⟩;rcases h.ro.2 with ⟨e,_⟩|⟨g',cap',cur,e,_,hg,_⟩
 ·simp at e
 ·simp only[Value.slice.injEq,Option.some.injEq,Addr.mk.injEq,and_true,true_and] at e;obtain⟨rfl,rfl⟩:=e;exact (Keeps.refl K.base OT w).setCell (p:=⟨g,i*4+m,none⟩) hg ⟨_,_,_,rfl,.inr (.inl rfl)⟩ hb u
theorem QT.setL (h:QT K vo vp qo qp w){i:Nat}(hi:i<qp.length){j:Nat}(x:Option Nat) :
 QT K vo vp qo (qp.set i { qp[i] with L:=qp[i].L.set j x }) (w.setCell ⟨qp[i].g,j,none⟩ (.int .i64 (cd x)))/\Keeps K.base OT w (w.setCell ⟨qp[i].g,j,none⟩ (.int .i64 (cd x))):=by
 have hr:=h.rl _ (List.getElem_mem hi);obtain⟨hb,hlt,hne,-⟩:=h.atL hi;have hs:=(hr.stored (g:=qp[i].g) j (.int .i64 (cd x))).1;rw[lcl_set] at hs;refine⟨⟨h.box.far (p:=⟨qp[i].g,j,none⟩) (fun e=>hne e.symm) _,own_setFar h.ro (p:=⟨qp[i].g,j,none⟩) (fun k hk=>own_far h.ro hr (by decide) hk rfl) _,?_,?_,?_,h.ge⟩,?_⟩
 ·rw[pcl_set qp i hi (qp[i].L.set j x) (by rw[List.length_set]),List.length_set];exact own_setFar h.rp (p:=⟨qp[i].g,j,none⟩) (fun k hk=>own_far h.rp hr (by decide) hk rfl) _
 ·intro y hy;obtain⟨k,hk,rfl⟩:=List.getElem_of_mem hy;rw[List.length_set] at hk;rw[List.getElem_set]
  split
  ·show World.ownsRow _ _ _ _ (pval _) (qp[i].L.set j x).length (lcl (qp[i].L.set j x))
   unfold pval;simp only[List.length_set];exact hs
  ·rename_i hik
   refine own_setFar (h.rl _ (List.getElem_mem hk)) (p:=⟨qp[i].g,j,none⟩) (fun b hb'=>?_) _
   cases hb'
   show qp[k].g≠qp[i].g
   intro e;have hp:=List.pairwise_iff_getElem.1 h.dis;rcases Nat.lt_or_gt_of_ne hik with h1|h1
   ·exact absurd (by rw[List.getElem_map,List.getElem_map];exact e.symm) (hp i k (by simpa using hi) (by simpa using hk) h1)
   ·exact absurd (by rw[List.getElem_map,List.getElem_map];exact e) (hp k i (by simpa using hk) (by simpa using hi) h1)
 ·have:(qp.set i { qp[i] with L:=qp[i].L.set j x }).map (·.g)=qp.map (·.g):=by
   rw[List.map_set];refine List.ext_getElem (by simp) fun k h1 h2=>?_;rw[List.getElem_set]
   split
   ·rename_i e;subst e;simp
   ·rfl
  rw[this];exact h.dis
 ·rcases hr.2 with ⟨e,_⟩|⟨g',cap',cur,e,_,hg,_⟩
  ·cases e
  ·simp only[pval,Value.slice.injEq,Option.some.injEq,Addr.mk.injEq,and_true,true_and] at e;obtain⟨rfl,-⟩:=e;exact (Keeps.refl K.base OT w).setCell (p:=⟨qp[i].g,j,none⟩) hg ⟨_,_,_,rfl,.inr (.inr (.inr rfl))⟩ hb _
end
end RD
namespace RD
open DC (Of Ls Ps Ou lk fx fx_le fx_lt fx_at fileR getL getL_none getL_at vacP)
open IN (Keeps lt_of_some)
def Pq (qp:List PE):Ps:=qp.map fun x=>(x.pid,x.L)
def Oq (qo:List Of):Ou:=fun k=>match qo[k]? with
 | none=>none
 | some o=>if o.refs=0 then none else some o
theorem Oq_some {qo:List Of}{k:Nat}{o:Of}(h:Oq qo k=some o):∃ hk:k<qo.length,qo[k]=o/\o.refs≠0:=by
 unfold Oq at h
 cases e:qo[k]? with
 | none=>rw[e] at h;cases h
 | some o'=>
   rw[e] at h;simp only at h
   split at h
   ·cases h
   ·rename_i hne
    cases h
    obtain⟨hk,he⟩:=List.getElem?_eq_some_iff.1 e;exact⟨hk,he,hne⟩
def px:List PE->Int->Nat
 | [],_=>0
 | x :: l,n=>if x.pid=n then 0 else px l n+1
theorem px_le:∀ (l:List PE) (n:Int),px l n<=l.length
 | [],_=>Nat.le_refl _
 | x :: l,n=>by
   unfold px
   split
   ·omega
   ·have:=px_le l n;rw[List.length_cons];omega
theorem px_at:∀ (l:List PE) (n:Int) (h:px l n<l.length),l[px l n].pid=n
 | [],n,h=>by cases h
 | x :: l,n,h=>by
   by_cases e:x.pid=n
   ·have:px (x :: l) n=0:=by simp[px,e]
    simp only[this,List.getElem_cons_zero,e]
   ·have h2:px (x :: l) n=px l n+1:=by simp[px,e]
    rw[h2,List.length_cons] at h;simp only[h2,List.getElem_cons_succ];exact px_at l n (by omega)
theorem px_ne:∀ (l:List PE) (n:Int) (j:Nat) (hj:j<l.length),j<px l n->l[j].pid≠n
 | [],n,j,hj,_=>by cases hj
 | x :: l,n,j,hj,h=>by
   by_cases e:x.pid=n
   ·have:px (x :: l) n=0:=by simp[px,e]
    omega
   ·have h2:px (x :: l) n=px l n+1:=by simp[px,e]
    cases j with
    | zero=>exact e
    | succ j=>
      simp only[List.getElem_cons_succ];exact px_ne l n j (by rw[List.length_cons] at hj;omega) (by omega)
theorem px_none:∀ {l:List PE} {n:Int},lk (Pq l) n=none->px l n=l.length
 | [],n,_=>rfl
 | x :: l,n,h=>by
   have h':lk ((x.pid,x.L) :: Pq l) n=none:=h;rw[DC.lk_cons] at h'
   split at h'
   ·cases h'
   ·rename_i hne
    have:px (x :: l) n=px l n+1:=by simp only[px];rw[if_neg hne]
    rw[this,px_none h',List.length_cons]
theorem px_some:∀ {l:List PE} {n:Int} {L:Ls},lk (Pq l) n=some L->∃ h:px l n<l.length,l[px l n].L=L
 | [],n,L,h=>by cases h
 | x :: l,n,L,h=>by
   have h':lk ((x.pid,x.L) :: Pq l) n=some L:=h;rw[DC.lk_cons] at h'
   split at h'
   ·rename_i e
    cases h'
    have:px (x :: l) n=0:=by simp only[px];rw[if_pos e]
    exact⟨by rw[this];simp,by simp only[this,List.getElem_cons_zero]⟩
   ·rename_i hne
    have h2:px (x :: l) n=px l n+1:=by simp only[px];rw[if_neg hne]
    obtain⟨h3,h4⟩:=px_some h';exact⟨by rw[h2,List.length_cons];omega,by simp only[h2,List.getElem_cons_succ];exact h4⟩
def atA (P:Ps)(l:List PE)(n:Int):Int:=if lk P n=none then -1 else (px l n:Int)
section
variable {K:Cd}{vo vp:Value}{qo:List Of}{qp:List PE}{w w':World}
theorem at_core (n:Int)(h:QT K vo vp qo qp w)(J:Nat)(hK:J<=qp.length)(hne:∀ j (hj:j<qp.length),j<J->qp[j].pid≠n)(heq:∀ hj:J<qp.length,qp[J].pid=n)(hlen:qp.length<=100000) :
 Calls prog 79 #[.pointer (some ⟨K.d,0,none⟩),.int .i64 n] w fun e w'=>e=.returned (.int .i64 (if J<qp.length then (J:Int) else -1))/\w=w':=by
 have c1:=h.box.cell (j:=10) rfl;obtain⟨ao,cap,hv⟩:=Own.form h.rp;have hE:=Wd (fun i (hi:i<qp.length)=>h.atP hi);rw[hv] at hE;subst hv;obtain⟨N,hN⟩:∃ N,qp.length=N:=⟨_,rfl⟩;rw[hN] at c1 hK hlen ⊢;replace hN:=Wd hN;replace hne:=Wd hne;replace heq:=Wd heq;clear h;go_enter func79,ntmps79
 go_wp2_with fail
 go_loopw [5] (fun i wr=>∃ k:Nat,k<=J/\i=.int .i64 (k:Int)/\w=wr) (fun i _=>N-(intOf i).toNat)
 case atStart=>exact⟨0,Nat.zero_le _,rfl,rfl⟩
 case round=>
  obtain⟨k,hk,rfl,hwr⟩:=hrel;subst hwr
  by_cases hlt:k<N
  ·have hkq:k<qp.length:=by rw[hN.out];exact hlt
   obtain⟨g,cap',hv,-,-,-,-,-,-,e0,-⟩:=hE.out k hkq;simp only[Value.slice.injEq] at hv;obtain⟨rfl,-,-⟩:=hv
   by_cases hkK:k<J
   ·have hx:=hne.out k hkq hkK;obtain⟨a,ha⟩:∃ a,qp[k].pid=a:=⟨_,rfl⟩;rw[ha] at e0 hx;clear ha hkq;go_wp2_with fail
    go_roundw
    case rel=>exact⟨k+1,by omega,by go_num,by first|trivial|rfl⟩
    case measure=>simp[intOf];omega
   ·obtain rfl:k=J:=by omega
    have hx:=heq.out hkq;rw[hx] at e0;clear hx hkq;go_wp2_with fail
    go_ret
    exact⟨rfl,by first|trivial|rfl⟩
  ·obtain rfl:k=J:=by omega
   have hkN:k=N:=by omega
   replace hkN:=Wd hkN;have hge:(N:Int)<=(k:Int):=by omega
   go_wp2_with fail
   go_ret
   exact⟨rfl,by first|trivial|rfl⟩
theorem at_any (n:Int)(h:QT K vo vp qo qp w)(hlen:qp.length<=100000) :
 Calls prog 79 #[.pointer (some ⟨K.d,0,none⟩),.int .i64 n] w fun e w'=>e=.returned (.int .i64 (atA (Pq qp) qp n))/\w=w':=by
 have:=at_core n h (px qp n) (px_le qp n) (fun j hj hJ=>px_ne qp n j hj hJ) (fun hj=>px_at qp n hj) hlen;unfold atA
 cases e:lk (Pq qp) n with
 | none=>
   rw[px_none e,if_neg (Nat.lt_irrefl _)] at this;exact this
 | some L=>
   rw[if_pos (px_some e).1] at this;exact this
theorem may_any (n:Int)(h:QT K vo vp qo qp w)(hlen:qp.length<=100000) :
 Calls prog 40 #[.pointer (some ⟨K.d,0,none⟩),.int .i64 n] w fun e w'=>e=.returned (.int .i64 (vacP (Pq qp) n))/\w=w':=by
 have cA:=at_any n h hlen;unfold vacP;unfold atA at cA
 by_cases h1:n<1
 ·rw[if_pos h1];clear cA h;go_enter func40,ntmps40
  go_wp2_with fail
  go_ret
  exact⟨rfl,rfl⟩
 ·rw[if_neg h1]
  by_cases h2:lk (Pq qp) n=none
  ·rw[if_pos h2] at cA ⊢;have cA:=Wd cA;clear h h2;go_enter func40,ntmps40
   go_wp2_with (go_at_call 79;refine cA.out.mono ?_;rintro e w1 ⟨rfl,rfl⟩)
   go_ret
   exact⟨rfl,by first|trivial|rfl⟩
  ·rw[if_neg h2] at cA ⊢;have cA:=Wd cA;clear h h2;generalize px qp n=p at *;go_enter func40,ntmps40
   go_wp2_with (go_at_call 79;refine cA.out.mono ?_;rintro e w1 ⟨rfl,rfl⟩)
   go_ret
   exact⟨rfl,by first|trivial|rfl⟩
theorem free_any (i:Nat)(h:QT K vo vp qo qp w)(hi:i<qp.length)(hlen:qp[i].L.length<=100000) :
 Calls prog 81 #[.pointer (some ⟨K.d,0,none⟩),.int .i64 (i:Int)] w fun e w'=>e=.returned (.int .i64 (if fx qp[i].L<qp[i].L.length then (fx qp[i].L:Int) else -1))/\w=w':=by
 have c1:=h.box.cell (j:=10) rfl;obtain⟨g,cap,rfl,-,-,-,h1,h2,-,-,e1⟩:=h.atP hi;obtain⟨-,-,-,h3,h4,-,hc⟩:=h.atL hi;unfold pval at e1;have hle:=fx_le qp[i].L;have hiN:(i:Int)<(qp.length:Int):=by omega
 have hlt:Hid (∀ k,k<fx qp[i].L->∃ y:Nat,w.cell? ⟨qp[i].g,k,none⟩=some (.int .i64 (y:Int))):=Wd fun k hk=>by
  obtain⟨y,hy⟩:=fx_lt hk (by omega);exact⟨y,hc k (some y) (by rw[List.getElem?_eq_getElem (by omega),hy])⟩
 have hat:Hid (fx qp[i].L<qp[i].L.length->w.cell? ⟨qp[i].g,fx qp[i].L,none⟩=some (.int .i64 (-1))):=Wd fun hk=>hc _ none (by rw[List.getElem?_eq_getElem hk,fx_at hk]);clear hc h;generalize fx qp[i].L=J at *;generalize qp[i].L.length=n at *;generalize qp[i].g=lg at *;generalize qp[i].cap=lc at *;generalize qp.length=N at *;go_enter func81,ntmps81
 go_wp2_with fail
 go_loopw [5] (fun i wr=>∃ k:Nat,k<=J/\i=.int .i64 (k:Int)/\w=wr) (fun i _=>n-(intOf i).toNat)
 case atStart=>exact⟨0,Nat.zero_le _,rfl,rfl⟩
 case round=>
  obtain⟨k,hk,rfl,hwr⟩:=hrel;subst hwr
  by_cases hkn:k<n
  ·by_cases hkK:k<J
   ·obtain⟨y,ey⟩:=hlt.out k hkK;go_wp2_with fail
    go_roundw
    case rel=>exact⟨k+1,by omega,by go_num,by first|trivial|rfl⟩
    case measure=>simp[intOf];omega
   ·obtain rfl:k=J:=by omega
    have ey:=hat.out hkn;go_wp2_with fail
    go_ret
    exact⟨rfl,by first|trivial|rfl⟩
  ·obtain rfl:k=J:=by omega
   have hge:(n:Int)<=(k:Int):=by omega
   go_wp2_with fail
   go_ret
   exact⟨rfl,by first|trivial|rfl⟩
end
end RD
namespace RD
open DC (Of Ls Ps Ou lk fx fx_le fx_lt fx_at fileR getL getL_none getL_at vacP)
open IN (Keeps lt_of_some)
section
variable {K:Cd}{vo vp:Value}{qo:List Of}{qp:List PE}{w w':World}
def fileA:Except Int Nat->Int×Int
 | .error c=>(0,c)
 | .ok k=>((k:Int),0)
theorem open_none (pid fd fl:Int)(h:QT K vo vp qo qp w)(hlen:qp.length<=100000)(e:lk (Pq qp) pid=none) :
 Calls prog 85 #[.pointer (some ⟨K.d,0,none⟩),.int .i64 pid,.int .i64 fd,.int .i64 fl] w fun e w'=>e=.returned (.tuple #[.int .i64 0,.int .i64 19])/\Below w.heap.size w w':=by
 have cA:=at_any pid h hlen;unfold atA at cA;rw[if_pos e] at cA;have cA:=Wd cA;clear h e;go_enter func85,ntmps85
 go_wp2_with (go_at_call 79;refine cA.out.mono ?_;rintro e w1 ⟨rfl,rfl⟩)
 go_ret2
 exact⟨rfl,Below.refl _ _⟩
end
end RD
namespace RD
open DC (Of Ls Ps Ou lk fx fx_le fx_lt fx_at fileR getL getL_none getL_at vacP)
open IN (Keeps lt_of_some)
section
variable {K:Cd}{vo vp:Value}{qo:List Of}{qp:List PE}{w w':World}
theorem open_out (pid fd fl:Int)(h:QT K vo vp qo qp w)(hlen:qp.length<=100000){L:Ls}(e:lk (Pq qp) pid=some L)(hfd:fd<0∨(L.length:Int)<=fd) :
 Calls prog 85 #[.pointer (some ⟨K.d,0,none⟩),.int .i64 pid,.int .i64 fd,.int .i64 fl] w fun e w'=>e=.returned (.tuple #[.int .i64 0,.int .i64 16])/\Below w.heap.size w w':=by
 have cA:=at_any pid h hlen;unfold atA at cA;rw[if_neg (by rw[e];simp)] at cA;have cA:=Wd cA;obtain⟨hi,hL⟩:=px_some e;have c1:=h.box.cell (j:=10) rfl;obtain⟨g,cap,rfl,-,-,-,h1,h2,-,-,e1⟩:=h.atP hi;obtain⟨-,-,-,h3,h4,-,hc⟩:=h.atL hi;unfold pval at e1;have hiN:((px qp pid:Nat):Int)<(qp.length:Int):=by omega
 rw[hL] at e1 h3;clear hc h e hL;generalize px qp pid=i at *;generalize qp[i].g=lg at *;generalize qp[i].cap=lc at *;generalize L.length=n at *;generalize qp.length=N at *
 by_cases h0:fd<0
 ·have d0:decide (fd<0)=true:=decide_eq_true h0;clear hfd;go_enter func85,ntmps85
  go_wp2_with (go_at_call 79;refine cA.out.mono ?_;rintro e w1 ⟨rfl,rfl⟩)
  go_quiet (fail)
  go_wp2_with fail
  go_ret2
  exact⟨rfl,below_drewN (Below.refl _ _) _⟩
 ·have d0:decide (fd<0)=false:=decide_eq_false h0;have d1:decide (fd≥(n:Int))=true:=decide_eq_true (by omega);clear hfd;go_enter func85,ntmps85
  go_wp2_with (go_at_call 79;refine cA.out.mono ?_;rintro e w1 ⟨rfl,rfl⟩)
  go_quiet (fail)
  go_wp2_with fail
  go_ret2
  exact⟨rfl,below_drewN (Below.refl _ _) _⟩
end
end RD
namespace RD
open DC (Of Ls Ps Ou lk fx fx_le fx_lt fx_at fileR getL getL_none getL_at vacP)
open IN (Keeps lt_of_some)
section
variable {K:Cd}{vo vp:Value}{qo:List Of}{qp:List PE}{w w':World}
theorem open_gone (pid fl:Int)(j:Nat)(h:QT K vo vp qo qp w)(hlen:qp.length<=100000){L:Ls}(e:lk (Pq qp) pid=some L)(hj:L[j]? = some none)(hll:L.length<=64) :
 Calls prog 85 #[.pointer (some ⟨K.d,0,none⟩),.int .i64 pid,.int .i64 (j:Int),.int .i64 fl] w fun e w'=>e=.returned (.tuple #[.int .i64 0,.int .i64 16])/\Below w.heap.size w w':=by
 have cA:=at_any pid h hlen;unfold atA at cA;rw[if_neg (by rw[e];simp)] at cA;have cA:=Wd cA;obtain⟨hi,hL⟩:=px_some e;have c1:=h.box.cell (j:=10) rfl;obtain⟨g,cap,rfl,-,-,-,h1,h2,-,-,e1⟩:=h.atP hi;obtain⟨-,-,-,h3,h4,-,hc⟩:=h.atL hi;unfold pval at e1;have hiN:((px qp pid:Nat):Int)<(qp.length:Int):=by omega
 have hjn:=(List.getElem?_eq_some_iff.1 hj).1;rw[hL] at e1 h3;have el:=hc j none (by rw[hL];exact hj);simp only[cd] at el;obtain⟨z,hz,d2⟩:∃ z:Int,(-1:Int)=z/\decide (z<0)=true:=⟨_,rfl,rfl⟩;rw[hz] at el;have d0:decide ((j:Int)<0)=false:=decide_eq_false (by omega);have d1:decide ((j:Int)≥(L.length:Int))=false:=decide_eq_false (by omega);have d1b:decide ((L.length:Int)<=(j:Int))=false:=decide_eq_false (by omega);have d1c:decide (L.length<=j)=false:=decide_eq_false (by omega);clear hz;have hjN:(j:Int)<(L.length:Int):=by omega
 clear hc h e hL hj;generalize px qp pid=i at *;generalize qp[i].g=lg at *;generalize qp[i].cap=lc at *;generalize L.length=n at *;generalize qp.length=N at *;go_enter func85,ntmps85
 go_wp2_with (go_at_call 79;refine cA.out.mono ?_;rintro e w1 ⟨rfl,rfl⟩)
 go_quiet (fail)
 go_wp2_with fail
 go_ret2
 exact⟨rfl,below_drewN (Below.refl _ _) _⟩
end
end RD
namespace RD
open DC (Of Ls Ps Ou lk fx fx_le fx_lt fx_at fileR getL getL_none getL_at vacP)
open IN (Keeps lt_of_some)
section
variable {K:Cd}{vo vp:Value}{qo:List Of}{qp:List PE}{w w':World}
theorem open_at (pid fl:Int)(j k:Nat)(o:Of)(h:QT K vo vp qo qp w)(hlen:qp.length<=100000)(hol:qo.length<=1024){L:Ls}(e:lk (Pq qp) pid=some L)(hj:L[j]? = some (some k))(hll:L.length<=64)(hk:Oq qo k=some o) :
 Calls prog 85 #[.pointer (some ⟨K.d,0,none⟩),.int .i64 pid,.int .i64 (j:Int),.int .i64 fl] w fun e w'=>e=.returned (.tuple #[.int .i64 (if (bits .and .i64 o.flags fl == fl)=true then (k:Int) else 0),.int .i64 (if (bits .and .i64 o.flags fl == fl)=true then 0 else 16)])/\Below w.heap.size w w':=by
 have cA:=at_any pid h hlen;unfold atA at cA;rw[if_neg (by rw[e];simp)] at cA;have cA:=Wd cA;obtain⟨hi,hL⟩:=px_some e;obtain⟨hko,rfl,-⟩:=Oq_some hk;have c1:=h.box.cell (j:=10) rfl;have c9:=h.box.cell (j:=9) rfl;obtain⟨g,cap,rfl,-,-,-,h1,h2,-,-,e1⟩:=h.atP hi;obtain⟨og,ocap,rfl,-,-,-,h5,h6,-,-,-,e2,-⟩:=h.atO hko;obtain⟨-,-,-,h3,h4,-,hc⟩:=h.atL hi;unfold pval at e1;have hiN:((px qp pid:Nat):Int)<(qp.length:Int):=by omega
 have hjn:=(List.getElem?_eq_some_iff.1 hj).1;rw[hL] at e1 h3;have el:=hc j (some k) (by rw[hL];exact hj);simp only[cd] at el;have d0:decide ((j:Int)<0)=false:=decide_eq_false (by omega);have d1:decide ((j:Int)≥(L.length:Int))=false:=decide_eq_false (by omega);have d1b:decide ((L.length:Int)<=(j:Int))=false:=decide_eq_false (by omega);have d1c:decide (L.length<=j)=false:=decide_eq_false (by omega);have d2:decide ((k:Int)<0)=false:=decide_eq_false (by omega);have hjN:(j:Int)<(L.length:Int):=by omega
 have hkN:(k:Int)<(qo.length:Int):=by omega
 clear hc h e hL hj hk;generalize px qp pid=i at *;generalize qp[i].g=lg at *;generalize qp[i].cap=lc at *;generalize L.length=n at *;generalize qp.length=N at *;generalize qo[k].flags=f at *;generalize qo.length=No at *
 cases hb:(bits .and .i64 f fl == fl) with
 | true=>
   have d3:(bits .and .i64 f fl != fl)=false:=by simp only[bne,hb];rfl
   simp only[if_true];go_enter func85,ntmps85
   go_wp2_with (go_at_call 79;refine cA.out.mono ?_;rintro e w1 ⟨rfl,rfl⟩)
   go_quiet (fail)
   go_wp2_with fail
   go_ret2
   exact⟨rfl,below_drewN (Below.refl _ _) _⟩
 | false=>
   have d3:(bits .and .i64 f fl != fl)=true:=by simp only[bne,hb];rfl
   simp only[Bool.false_eq_true,if_false];go_enter func85,ntmps85
   go_wp2_with (go_at_call 79;refine cA.out.mono ?_;rintro e w1 ⟨rfl,rfl⟩)
   go_quiet (fail)
   go_wp2_with fail
   go_ret2
   exact⟨rfl,below_drewN (Below.refl _ _) _⟩
end
end RD
end Go.Proofs.YtfffibepcdlldaaGreat
