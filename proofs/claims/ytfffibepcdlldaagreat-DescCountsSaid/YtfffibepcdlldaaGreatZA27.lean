/- A part. -/
import Derived.Test.YtfffibepcdlldaaGreatZA21
import Derived.Test.YtfffibepcdlldaaGreatZA11
import Derived.Test.YtfffibepcdlldaaGreatZA14
import Derived.Test.YtfffibepcdlldaaGreatZA13
import Derived.Test.YtfffibepcdlldaaGreatZA10
import Derived.Deep.RegionHeld3
import Derived.Test.YtfffibepcdlldaaGreatZA23
import Derived.Test.YtfffibepcdlldaaGreatZA22
import Derived.Test.YtfffibepcdlldaaGreatZA25
import Derived.Deep.MidRow
import Derived.Test.YtfffibepcdlldaaGreatZA24
import Derived.Test.YtfffibepcdlldaaGreatZA26
set_option linter.unusedVariables false
set_option linter.unusedSimpArgs false
set_option maxRecDepth 100000
set_option maxHeartbeats 64000000
open Go.Proofs.Tryz

namespace Go.Proofs.YtfffibepcdlldaaGreat
open Go.ChangeShapes Go.WideShapes Go.ChangeAt Go.RowKit
namespace RN
open IN (Keeps)
structure DD where
 ino:Int
 up:Int
 l:List (ByteArray×Int×Int)
structure QE where
 ino:Int
 up:Int
 v:Value
def qrow (x:QE):List Value:=[.int .i64 x.ino,.int .i64 x.up,x.v]
def qcl (q:List QE):List Value:=(q.map qrow).flatten
theorem qrows (q:List QE):∀ x∈q.map qrow,x.length=3:=by
 intro x hx;obtain⟨y,-,rfl⟩:=List.mem_map.1 hx
 rfl
theorem qcl_app (a b:List QE):qcl (a ++ b)=qcl a ++ qcl b:=by simp[qcl]
theorem qcl_one (x:QE):qcl [x]=qrow x:=by simp[qcl]
theorem qcl_take (q:List QE)(k:Nat):(qcl q).take (k*3)=qcl (q.take k):=by unfold qcl;rw[Own.rows_take (qrows q),List.map_take]
theorem qcl_drop (q:List QE)(k:Nat):(qcl q).drop (k*3)=qcl (q.drop k):=by unfold qcl;rw[Own.rows_drop (qrows q),List.map_drop]
theorem qcl_get (q:List QE)(i:Nat)(hi:i<q.length)(m:Nat)(hm:m<3):(qcl q)[i*3+m]? = (qrow q[i])[m]?:=by
 unfold qcl;rw[Own.rows_get (qrows q) i (by simpa using hi) m hm];simp
theorem qcl_set (q:List QE)(i:Nat)(hi:i<q.length)(m:Nat)(u:Value)(hm:m<3)(x:QE)(hx:(qrow q[i]).set m u=qrow x):(qcl q).set (i*3+m) u=qcl (q.set i x):=by
 unfold qcl;rw[Own.rows_set (qrows q) i (by simpa using hi) m u hm]
 congr 1
 rw[List.map_set,List.getElem_map,hx]
def krow (x:ByteArray×Int×Int):List Value:=[.string x.1,.int .i64 x.2.1,.int .i64 x.2.2]
def kcl (l:List (ByteArray×Int×Int)):List Value:=(l.map krow).flatten
theorem krows (l:List (ByteArray×Int×Int)):∀ x∈l.map krow,x.length=3:=by
 intro x hx;obtain⟨y,-,rfl⟩:=List.mem_map.1 hx
 rfl
theorem kcl_len (l:List (ByteArray×Int×Int)):(kcl l).length=l.length*3:=by unfold kcl;rw[Own.rows_len (krows l),List.length_map]
theorem kcl_app (a b:List (ByteArray×Int×Int)):kcl (a ++ b)=kcl a ++ kcl b:=by simp[kcl]
theorem kcl_one (x:ByteArray×Int×Int):kcl [x]=krow x:=by simp[kcl]
theorem kcl_take (l:List (ByteArray×Int×Int))(k:Nat):(kcl l).take (k*3)=kcl (l.take k):=by unfold kcl;rw[Own.rows_take (krows l),List.map_take]
theorem kcl_drop (l:List (ByteArray×Int×Int))(k:Nat):(kcl l).drop (k*3)=kcl (l.drop k):=by unfold kcl;rw[Own.rows_drop (krows l),List.map_drop]
theorem kcl_get (l:List (ByteArray×Int×Int))(i:Nat)(hi:i<l.length)(m:Nat)(hm:m<3):(kcl l)[i*3+m]? = (krow l[i])[m]?:=by
 unfold kcl;rw[Own.rows_get (krows l) i (by simpa using hi) m hm];simp
def NE (w:World)(v:Value)(l:List (ByteArray×Int×Int)):Prop:=∃ b,w.ownsRow b 201 3 v l.length (kcl l)
structure QF (w:World)(x:QE)(y:DD):Prop where
 ino:x.ino=y.ino
 up:x.up=y.up
 v:NE w x.v y.l
def Fit (w:World):List QE->List DD->Prop
 | [],[]=>True
 | x :: q,y :: l=>QF w x y/\Fit w q l
 | _,_=>False
section
variable {w w':World}
theorem NE.move {v:Value}{l:List (ByteArray×Int×Int)}(h:NE w v l)(hk:∀ (b:Nat) cur,w.heap[b]? = some (.cells cur 201 (0,0))->w'.heap[b]? = w.heap[b]?):NE w' v l:=by
 obtain⟨b,hr⟩:=h;refine⟨b,hr.1,?_⟩;rcases hr.2 with h0|⟨g,cap,cur,e1,e2,e3,e4⟩
 ·exact .inl h0
 ·exact .inr ⟨g,cap,cur,e1,e2,(hk g _ e3).trans e3,e4⟩
theorem QF.move {x:QE}{y:DD}(h:QF w x y)(hk:∀ (b:Nat) cur,w.heap[b]? = some (.cells cur 201 (0,0))->w'.heap[b]? = w.heap[b]?):QF w' x y:=⟨h.ino,h.up,h.v.move hk⟩
theorem Fit.move:∀ {q:List QE} {l:List DD},Fit w q l->(∀ (b:Nat) cur,w.heap[b]? = some (.cells cur 201 (0,0))->w'.heap[b]? = w.heap[b]?)->Fit w' q l
 | [],[],_,_=>trivial
 | x :: q,y :: l,h,hk=>⟨h.1.move hk,Fit.move h.2 hk⟩
 | [],y :: l,h,_=>h.elim
 | x :: q,[],h,_=>h.elim
theorem Fit.keep {q:List QE}{l:List DD}(h:Fit w q l)(hb:Below w.heap.size w w'):Fit w' q l:=h.move fun b cur hc=>hb.block b (IN.lt_of_some hc)
theorem Fit.keeps {q:List QE}{l:List DD}(h:Fit w q l){B:Nat}{T:Nat->Obj->Prop}(hK:Keeps B T w w')(hT:∀ k c,¬ T k (.cells c 201 (0,0))):Fit w' q l:=h.move fun b cur hb=>(hK.block b _ hb (hT b cur)).trans hb.symm
theorem Fit.len:∀ {q:List QE} {l:List DD},Fit w q l->q.length=l.length
 | [],[],_=>rfl
 | x :: q,y :: l,h=>by rw[List.length_cons,List.length_cons,Fit.len h.2]
 | [],y :: l,h=>h.elim
 | x :: q,[],h=>h.elim
theorem Fit.app:∀ {q:List QE} {l:List DD} {q':List QE} {l':List DD},Fit w q l->Fit w q' l'->Fit w (q ++ q') (l ++ l')
 | [],[],_,_,_,h'=>h'
 | x :: q,y :: l,_,_,h,h'=>⟨h.1,Fit.app h.2 h'⟩
 | [],y :: l,_,_,h,_=>h.elim
 | x :: q,[],_,_,h,_=>h.elim
theorem Fit.take:∀ {q:List QE} {l:List DD} (k:Nat),Fit w q l->Fit w (q.take k) (l.take k)
 | _,_,0,_=>by rw[List.take_zero,List.take_zero];trivial
 | [],[],k+1,_=>trivial
 | x :: q,y :: l,k+1,h=>⟨h.1,Fit.take k h.2⟩
 | [],y :: l,k+1,h=>h.elim
 | x :: q,[],k+1,h=>h.elim
theorem Fit.drop:∀ {q:List QE} {l:List DD} (k:Nat),Fit w q l->Fit w (q.drop k) (l.drop k)
 | _,_,0,h=>h
 | [],[],k+1,_=>trivial
 | x :: q,y :: l,k+1,h=>Fit.drop k h.2
 | [],y :: l,k+1,h=>h.elim
 | x :: q,[],k+1,h=>h.elim
theorem Fit.set:∀ {q:List QE} {l:List DD} (i:Nat) {x:QE} {y:DD},Fit w q l->QF w x y->Fit w (q.set i x) (l.set i y)
 | [],[],_,_,_,_,_=>trivial
 | a :: q,b :: l,0,_,_,h,hx=>⟨hx,h.2⟩
 | a :: q,b :: l,i+1,_,_,h,hx=>⟨h.1,Fit.set i h.2 hx⟩
 | [],y :: l,_,_,_,h,_=>h.elim
 | x :: q,[],_,_,_,h,_=>h.elim
theorem Fit.at_:∀ {q:List QE} {l:List DD} (i:Nat) (hi:i<q.length) (hl:i<l.length),Fit w q l->QF w q[i] l[i]
 | x :: q,y :: l,0,_,_,h=>h.1
 | x :: q,y :: l,i+1,hi,hl,h=>Fit.at_ i (by simpa using hi) (by simpa using hl) h.2
end
structure DM (base:Nat)(w:World)(rt rg:Nat)(v:Value)(q:List QE):Prop where
 box:Blk w rt 156 [.pointer (some ⟨rg,0,none⟩),v]
 row:w.ownsRow base 153 3 v q.length (qcl q)
 ge:base<=rt
section
variable {base:Nat}{w w':World}{rt rg:Nat}{v:Value}{q:List QE}
theorem DM.low (h:DM base w rt rg v q):base<=w.heap.size:=Nat.le_trans h.ge (Nat.le_of_lt h.box.lt)
theorem DM.keep (h:DM base w rt rg v q)(hb:Below w.heap.size w w'):DM base w' rt rg v q:=⟨h.box.keep hb,Own.below h.row hb,h.ge⟩
theorem DM.keeps (h:DM base w rt rg v q){C:Nat}{T:Nat->Obj->Prop}(hK:Keeps C T w w')(h1:∀ k c s,¬ T k (.cells c 156 s))(h2:∀ k c s,¬ T k (.cells c 153 s)):DM base w' rt rg v q:=by
 refine⟨hK.block _ _ h.box (h1 _ _ _),?_,h.ge⟩;rcases h.row.2 with h0|⟨g,cap,cur,e1,e2,e3,e4⟩
 ·exact⟨h.row.1,.inl h0⟩
 ·exact⟨h.row.1,.inr ⟨g,cap,cur,e1,e2,hK.block _ _ e3 (h2 _ _ _),e4⟩⟩
theorem DM.el (h:DM base w rt rg v q){i:Nat}(hi:i<q.length):∃ g cap,v=.slice (some ⟨g,0,none⟩) q.length cap/\base<=g/\g<w.heap.size/\g≠rt/\q.length<=cap/\cap<=maxLen/\(∀ j,w.frozen? ⟨g,j,none⟩=false)/\w.cell? ⟨g,i*3,none⟩=some (.int .i64 q[i].ino)/\w.cell? ⟨g,i*3+1,none⟩=some (.int .i64 q[i].up)/\w.cell? ⟨g,i*3+2,none⟩=some q[i].v:=by
 have hr:=h.row;rcases hr.2 with ⟨rfl,h0⟩|⟨g,cap,cur,rfl,hb,hg,h1,h2,h3,h4⟩
 ·omega
 ·have hc:∀ m u,m<3->(qrow q[i])[m]? = some u->w.cell? ⟨g,i*3+m,none⟩=some u:=fun m u hm hu=>by
   have:=hr.cells (g:=g) rfl (i*3+m) u (by rw[qcl_get q i hi m hm];exact hu);rw[Addr.add_lit,Nat.zero_add] at this;exact this
  refine⟨g,cap,rfl,hb,IN.lt_of_some hg,?_,h1,h2,fun j=>hr.frozenAt j,hc 0 _ (by decide) rfl,hc 1 _ (by decide) rfl,hc 2 _ (by decide) rfl⟩;rintro rfl;have hx:=h.box;unfold Blk at hx;rw[hx] at hg;simp only[Option.some.injEq,Obj.cells.injEq] at hg;exact absurd hg.2.1 (by decide)
def ix:List DD->Int->Nat
 | [],_=>0
 | x :: l,n=>if x.ino=n then 0 else ix l n+1
theorem ix_le:∀ (l:List DD) (n:Int),ix l n<=l.length
 | [],_=>Nat.le_refl _
 | x :: l,n=>by
   unfold ix
   split
   ·omega
   ·have:=ix_le l n;rw[List.length_cons];omega
theorem ix_at:∀ (l:List DD) (n:Int) (h:ix l n<l.length),l[ix l n].ino=n
 | [],n,h=>by cases h
 | x :: l,n,h=>by
   by_cases e:x.ino=n
   ·have:ix (x :: l) n=0:=by simp[ix,e]
    simp only[this,List.getElem_cons_zero,e]
   ·have h2:ix (x :: l) n=ix l n+1:=by simp[ix,e]
    rw[h2,List.length_cons] at h;simp only[h2,List.getElem_cons_succ];exact ix_at l n (by omega)
theorem ix_ne:∀ (l:List DD) (n:Int) (j:Nat) (hj:j<l.length),j<ix l n->l[j].ino≠n
 | [],n,j,hj,_=>by cases hj
 | x :: l,n,j,hj,h=>by
   by_cases e:x.ino=n
   ·have:ix (x :: l) n=0:=by simp[ix,e]
    omega
   ·have h2:ix (x :: l) n=ix l n+1:=by simp[ix,e]
    cases j with
    | zero=>exact e
    | succ j=>
      simp only[List.getElem_cons_succ];exact ix_ne l n j (by rw[List.length_cons] at hj;omega) (by omega)
def dirA (l:List DD)(n:Int):Int:=if ix l n<l.length then (ix l n:Int) else -1
theorem rdir_core (n:Int)(h:DM base w rt rg v q)(K:Nat)(hK:K<=q.length)(hne:∀ j (hj:j<q.length),j<K->q[j].ino≠n)(heq:∀ hj:K<q.length,q[K].ino=n)(hlen:q.length<=100000) :
 Calls prog 137 #[.pointer (some ⟨rt,0,none⟩),.int .i64 n] w fun e w'=>e=.returned (.int .i64 (if K<q.length then (K:Int) else -1))/\w=w':=by
 have c1:=h.box.cell (j:=1) rfl;obtain⟨ao,cap,hv⟩:=Own.form h.row;have hE:=Wd (fun i (hi:i<q.length)=>h.el hi);rw[hv] at hE;subst hv;obtain⟨N,hN⟩:∃ N,q.length=N:=⟨_,rfl⟩;rw[hN] at c1 hK hlen ⊢;replace hN:=Wd hN;replace hne:=Wd hne;replace heq:=Wd heq;clear h;go_enter func137,ntmps137
 go_wp2_with fail
 go_loopw [5] (fun i wr=>∃ k:Nat,k<=K/\i=.int .i64 (k:Int)/\w=wr) (fun i _=>N-(intOf i).toNat)
 case atStart=>exact⟨0,Nat.zero_le _,rfl,rfl⟩
 case round=>
  obtain⟨k,hk,rfl,hwr⟩:=hrel;subst hwr
  by_cases hlt:k<N
  ·have hkq:k<q.length:=by rw[hN.out];exact hlt
   obtain⟨g,cap',hv,-,-,-,-,-,-,e0,-⟩:=hE.out k hkq;simp only[Value.slice.injEq] at hv;obtain⟨rfl,-,-⟩:=hv
   by_cases hkK:k<K
   ·have hx:=hne.out k hkq hkK;obtain⟨a,ha⟩:∃ a,q[k].ino=a:=⟨_,rfl⟩;rw[ha] at e0 hx;clear ha hkq;go_wp2_with fail
    go_roundw
    case rel=>exact⟨k+1,by omega,by go_num,by first|trivial|rfl⟩
    case measure=>simp[intOf];omega
   ·obtain rfl:k=K:=by omega
    have hx:=heq.out hkq;rw[hx] at e0;clear hx hkq;go_wp2_with fail
    go_ret
    exact⟨rfl,by first|trivial|rfl⟩
  ·obtain rfl:k=K:=by omega
   have hkN:k=N:=by omega
   replace hkN:=Wd hkN;have hge:(N:Int)<=(k:Int):=by omega
   go_wp2_with fail
   go_ret
   exact⟨rfl,by first|trivial|rfl⟩
theorem rdir_any (n:Int){l:List DD}(h:DM base w rt rg v q)(hF:Fit w q l)(hlen:l.length<=100000) :
 Calls prog 137 #[.pointer (some ⟨rt,0,none⟩),.int .i64 n] w fun e w'=>e=.returned (.int .i64 (dirA l n))/\w=w':=by
 have hql:=hF.len;have:=rdir_core n h (ix l n) (by rw[hql];exact ix_le l n) (fun j hj hK=>by rw[(hF.at_ j hj (by omega)).ino];exact ix_ne l n j _ hK) (fun hj=>by rw[(hF.at_ _ hj (by omega)).ino];exact ix_at l n _) (by omega);unfold dirA;rw[hql] at this;exact this
theorem rdots_any (k:ByteArray)(w:World):Calls prog 135 #[.string k] w fun e w'=>e=.returned (.bool (decide (k=PM.dot∨k=PM.dots)))/\w=w':=by
 by_cases h1:k=PM.dot
 ·have e1:=dot_yes h1;rw[decide_eq_true (.inl h1)];clear h1;go_enter func135,ntmps135
  go_wp2_with fail
  go_ret
  exact⟨rfl,rfl⟩
 ·obtain⟨e1,e2⟩:=dot_no h1
  by_cases h2:k=PM.dots
  ·have e3:=dots_yes h2;rw[decide_eq_true (.inr h2)];clear h1 h2;go_enter func135,ntmps135
   go_wp2_with fail
   go_ret
   exact⟨rfl,rfl⟩
  ·obtain⟨e3,e4⟩:=dots_no h2;rw[decide_eq_false (fun h=>h.elim h1 h2)];clear h1 h2;go_enter func135,ntmps135
   go_wp2_with fail
   go_ret
   exact⟨rfl,rfl⟩
end
end RN
namespace RN
open IN (Keeps)
def kx:List (ByteArray×Int×Int)->ByteArray->Nat
 | [],_=>0
 | x :: l,k=>if x.1=k then 0 else kx l k+1
theorem kx_le:∀ (l:List (ByteArray×Int×Int)) (k:ByteArray),kx l k<=l.length
 | [],_=>Nat.le_refl _
 | x :: l,k=>by
   unfold kx
   split
   ·omega
   ·have:=kx_le l k;rw[List.length_cons];omega
theorem kx_at:∀ (l:List (ByteArray×Int×Int)) (k:ByteArray) (h:kx l k<l.length),l[kx l k].1=k
 | [],k,h=>by cases h
 | x :: l,k,h=>by
   by_cases e:x.1=k
   ·have:kx (x :: l) k=0:=by simp[kx,e]
    simp only[this,List.getElem_cons_zero,e]
   ·have h2:kx (x :: l) k=kx l k+1:=by simp[kx,e]
    rw[h2,List.length_cons] at h;simp only[h2,List.getElem_cons_succ];exact kx_at l k (by omega)
theorem kx_ne:∀ (l:List (ByteArray×Int×Int)) (k:ByteArray) (j:Nat) (hj:j<l.length),j<kx l k->l[j].1≠k
 | [],k,j,hj,_=>by cases hj
 | x :: l,k,j,hj,h=>by
   by_cases e:x.1=k
   ·have:kx (x :: l) k=0:=by simp[kx,e]
    omega
   ·have h2:kx (x :: l) k=kx l k+1:=by simp[kx,e]
    cases j with
    | zero=>exact e
    | succ j=>
      simp only[List.getElem_cons_succ];exact kx_ne l k j (by rw[List.length_cons] at hj;omega) (by omega)
def hasA (l:List (ByteArray×Int×Int))(k:ByteArray):Int:=match l.find? (fun x=>decide (x.1=k)) with
 | some x=>x.2.1
 | none=>0
theorem has_kx:∀ (l:List (ByteArray×Int×Int)) (k:ByteArray),hasA l k=if h:kx l k<l.length then l[kx l k].2.1 else 0
 | [],k=>by simp[hasA]
 | x :: l,k=>by
   by_cases e:x.1=k
   ·have h1:kx (x :: l) k=0:=by simp[kx,e]
    have h2:hasA (x :: l) k=x.2.1:=by simp[hasA,e]
    rw[h2];simp only[h1,List.length_cons,Nat.zero_lt_succ,dite_true,List.getElem_cons_zero]
   ·have h1:kx (x :: l) k=kx l k+1:=by simp[kx,e]
    have h2:hasA (x :: l) k=hasA l k:=by simp[hasA,e]
    rw[h2,has_kx l k];simp only[h1,List.length_cons,Nat.add_lt_add_iff_right,List.getElem_cons_succ]
theorem NE.form {w:World}{v:Value}{l:List (ByteArray×Int×Int)}(h:NE w v l):∃ ao cap,v=.slice ao l.length cap:=by
 obtain⟨b,hr⟩:=h;exact Own.form hr
theorem NE.el {w:World}{v:Value}{l:List (ByteArray×Int×Int)}(h:NE w v l){i:Nat}(hi:i<l.length):∃ g cap,v=.slice (some ⟨g,0,none⟩) l.length cap/\g<w.heap.size/\l.length<=cap/\cap<=maxLen/\w.cell? ⟨g,i*3,none⟩=some (.string l[i].1)/\w.cell? ⟨g,i*3+1,none⟩=some (.int .i64 l[i].2.1)/\w.cell? ⟨g,i*3+2,none⟩=some (.int .i64 l[i].2.2):=by
 obtain⟨b,hr⟩:=h;rcases hr.2 with ⟨rfl,h0⟩|⟨g,cap,cur,rfl,hb,hg,h1,h2,h3,h4⟩
 ·omega
 ·have hc:∀ m u,m<3->(krow l[i])[m]? = some u->w.cell? ⟨g,i*3+m,none⟩=some u:=fun m u hm hu=>by
   have:=hr.cells (g:=g) rfl (i*3+m) u (by rw[kcl_get l i hi m hm];exact hu);rw[Addr.add_lit,Nat.zero_add] at this;exact this
  exact⟨g,cap,rfl,IN.lt_of_some hg,h1,h2,hc 0 _ (by decide) rfl,hc 1 _ (by decide) rfl,hc 2 _ (by decide) rfl⟩
section
variable {base:Nat}{w w':World}{rt rg:Nat}{v:Value}{q:List QE}
theorem rhas_any (n:Int)(k:ByteArray){l:List DD}(h:DM base w rt rg v q)(hF:Fit w q l)(hlen:l.length<=100000)(hn:ix l n<l.length)(hln:l[ix l n].l.length<=100000) :
 Calls prog 136 #[.pointer (some ⟨rt,0,none⟩),.int .i64 n,.string k] w fun e w'=>e=.returned (.int .i64 (hasA l[ix l n].l k))/\Below w.heap.size w w':=by
 have cD:=fun W (hb:Below w.heap.size w W)=>rdir_any n (h.keep hb) (hF.keep hb) hlen;have hda:dirA l n=(ix l n:Int):=by unfold dirA;rw[if_pos hn]
 simp only[hda] at cD;have hql:=hF.len;obtain⟨g,cap,rfl,-,hg,-,hcap,-,-,-,-,e2⟩:=h.el (i:=ix l n) (by omega);have hNE:=(hF.at_ (ix l n) (by omega) hn).v;have c1:=h.box.cell (j:=1) rfl;obtain⟨u,hu⟩:∃ u,(q[ix l n]'(by omega)).v=u:=⟨_,rfl⟩;rw[hu] at hNE e2;obtain⟨r,hr⟩:∃ r,l[ix l n].l=r:=⟨_,rfl⟩;rw[hr] at hNE hln ⊢;clear hu hr hda;obtain⟨ao,c2,rfl⟩:=hNE.form;rw[has_kx];obtain⟨Z,hZ⟩:∃ Z,(if h:kx r k<r.length then r[kx r k].2.1 else 0)=Z:=⟨_,rfl⟩;rw[hZ];have hz1:∀ h:kx r k<r.length,r[kx r k].2.1=Z:=fun h=>by rw[<-hZ,dif_pos h]
 have hz2:¬ kx r k<r.length->(0:Int)=Z:=fun h=>by rw[<-hZ,dif_neg h]
 clear hZ;have hkle:=kx_le r k;have hkne:=kx_ne r k;have hkat:=kx_at r k;generalize kx r k=K at hkle hkne hkat hz1 hz2;generalize ix l n=p at *;obtain⟨N,hN⟩:∃ N,q.length=N:=⟨_,rfl⟩;rw[hN] at c1 hcap;have hp:(p:Int)<(N:Int):=by omega
 have hqN:=Wd (And.intro hql hN);clear hN hql hn h hF hlen;replace cD:=Wd cD;replace hNE:=Wd hNE;replace hkne:=Wd hkne;replace hkat:=Wd hkat;go_enter func136,ntmps136
 go_wp2_with fail
 go_region_held3 (fun w'=>w'.cell? ⟨rt,1,none⟩=some (.slice (some ⟨g,0,none⟩) N cap)/\w'.cell? ⟨g,p*3+2,none⟩=some (.slice ao r.length c2)/\Below w.heap.size w w') (first|assumption|(refine⟨?_,?_,?_⟩ <;> first|assumption|exact (Below.refl _ _).drew|exact Below.drew (by assumption)|go_keep))
  (first|(go_at_call 137;refine (cD.out _ ((Below.refl _ w).drew)).mono ?_;rintro e w1 ⟨rfl,rfl⟩))
 all_goals
  have hNW:=hNE.out.move (w':=w.drew) (fun _ _ _=>rfl);have bW:Below w.heap.size w w.drew:=(Below.refl _ w).drew;obtain⟨W,hW⟩:∃ W,w.drew=W:=⟨_,rfl⟩;rw[hW] at hNW bW ⊢;have hNW:=Wd hNW;replace bW:=Wd bW;obtain⟨R,hR⟩:∃ R,r.length=R:=⟨_,rfl⟩;rw[hR] at hln hkle;have hz1:=Wd hz1;have hz2:=Wd hz2;replace hR:=Wd hR;clear hW hNE e2 c1 hg hcap hp cD;rw[hR.out];go_wp2_with fail
  go_loopw [8] (fun i wr=>∃ j:Nat,j<=K/\i=.int .i64 (j:Int)/\W=wr) (fun i _=>R-(intOf i).toNat)
  case atStart=>exact⟨0,Nat.zero_le _,rfl,rfl⟩
  case round=>
   obtain⟨j,hj,rfl,hwr⟩:=hrel;subst hwr
   by_cases hlt:j<R
   ·have hjr:j<r.length:=by rw[hR.out];exact hlt
    obtain⟨g2,cap2,hv,-,-,-,s0,s1,-⟩:=hNW.out.el hjr;simp only[Value.slice.injEq] at hv;obtain⟨rfl,-,-⟩:=hv
    by_cases hjK:j<K
    ·have hx:=hkne.out j hjr hjK;obtain⟨a,ha⟩:∃ a,r[j].1=a:=⟨_,rfl⟩;rw[ha] at s0 hx;have hx1:(a.toList == k.toList)=false:=by
      simp only[beq_eq_false_iff_ne,ne_eq];exact fun e=>hx (list_inj e)
     have hx2:(a.toList=k.toList)=False:=eq_false fun e=>hx (list_inj e);clear ha hjr hx s1;go_wp2_with fail
     go_roundw
     case rel=>exact⟨j+1,by omega,by go_num,by first|trivial|rfl⟩
     case measure=>simp[intOf];omega
    ·obtain rfl:j=K:=by omega
     have hx:=hkat.out hjr;rw[hx] at s0;have hz:=hz1.out hjr;rw[hz] at s1;clear hx hz hjr;go_wp2_with fail
     go_ret
     exact⟨rfl,bW.out⟩
   ·obtain rfl:j=K:=by omega
    have hz:=hz2.out (by rw[hR.out];omega);subst hz;have hjN:j=R:=by omega
    replace hjN:=Wd hjN;have hge:(R:Int)<=(j:Int):=by omega
    go_wp2_with fail
    go_ret
    exact⟨rfl,bW.out⟩
end
end RN
namespace RN
open IN (Keeps)
open NT (Dr Ds er nu)
def two (l:List (ByteArray×Int×Int)):List (ByteArray×Int):=l.map fun x=>(x.1,x.2.1)
def toD (l:List DD):Ds:=fun n=>(l.find? fun x=>decide (x.ino=n)).map fun x=>⟨x.up,two x.l⟩
theorem toD_ix:∀ (l:List DD) (n:Int),toD l n=if h:ix l n<l.length then some ⟨l[ix l n].up,two l[ix l n].l⟩ else none
 | [],n=>by simp[toD]
 | x :: l,n=>by
   by_cases e:x.ino=n
   ·have h1:ix (x :: l) n=0:=by simp[ix,e]
    have h2:toD (x :: l) n=some ⟨x.up,two x.l⟩:=by simp[toD,e]
    rw[h2];simp only[h1,List.length_cons,Nat.zero_lt_succ,dite_true,List.getElem_cons_zero]
   ·have h1:ix (x :: l) n=ix l n+1:=by simp[ix,e]
    have h2:toD (x :: l) n=toD l n:=by simp[toD,e]
    rw[h2,toD_ix l n];simp only[h1,List.length_cons,Nat.add_lt_add_iff_right,List.getElem_cons_succ]
theorem has_look:∀ (l:List (ByteArray×Int×Int)) (k:ByteArray),hasA l k=(NT.look k (two l)).getD 0
 | [],k=>rfl
 | x :: l,k=>by
   have ih:=has_look l k
   by_cases e:x.1=k
   ·simp[hasA,two,NT.look,e]
   ·have h2:hasA (x :: l) k=hasA l k:=by simp[hasA,e]
    rw[h2,ih];simp[two,NT.look,e]
theorem dir_none {l:List DD}{n:Int}(h:toD l n=none):dirA l n = -1:=by
 rw[toD_ix] at h;unfold dirA
 split at h
 ·cases h
 ·rename_i h2
  rw[if_neg h2]
theorem dir_some {l:List DD}{n:Int}{d:Dr}(h:toD l n=some d):∃ h:ix l n<l.length,dirA l n=(ix l n:Int)/\d.up=l[ix l n].up/\d.l=two l[ix l n].l:=by
 rw[toD_ix] at h
 split at h
 ·rename_i h2
  cases h
  exact⟨h2,by unfold dirA;rw[if_pos h2],rfl,rfl⟩
 ·cases h
structure Few (l:List DD):Prop where
 len:l.length<=100000
 names:∀ x∈l,x.l.length<=100000
 nos:∀ x∈l,∀ y∈x.l,y.2.1≠0
theorem Few.look {l:List DD}(h:Few l){n:Int}{d:Dr}(hd:toD l n=some d){k:ByteArray}{j:Int}(hj:NT.look k d.l=some j):j≠0:=by
 obtain⟨h1,-,-,h2⟩:=dir_some hd;rw[h2] at hj;obtain⟨y,hy,e⟩:=List.mem_map.1 (NT.look_mem hj);simp only[Prod.mk.injEq] at e;rw[<-e.2];exact h.nos _ (List.getElem_mem h1) y hy
section
variable {base:Nat}{w w':World}{rt rg:Nat}{v:Value}{q:List QE}
structure DT (base:Nat)(w:World)(rt rg:Nat)(l:List DD):Prop where
 ex:∃ v q,DM base w rt rg v q/\Fit w q l
 few:Few l
theorem DT.keep {l:List DD}(h:DT base w rt rg l)(hb:Below w.heap.size w w'):DT base w' rt rg l:=by
 obtain⟨v,q,h1,h2⟩:=h.ex;exact⟨⟨v,q,h1.keep hb,h2.keep hb⟩,h.few⟩
theorem dir_t (n:Int){l:List DD}(h:DT base w rt rg l) :
 Calls prog 137 #[.pointer (some ⟨rt,0,none⟩),.int .i64 n] w fun e w'=>e=.returned (.int .i64 (dirA l n))/\w=w':=by
 obtain⟨v,q,h1,h2⟩:=h.ex;exact rdir_any n h1 h2 h.few.len
theorem has_t (n:Int)(k:ByteArray){l:List DD}(h:DT base w rt rg l){d:Dr}(hd:toD l n=some d) :
 Calls prog 136 #[.pointer (some ⟨rt,0,none⟩),.int .i64 n,.string k] w fun e w'=>e=.returned (.int .i64 ((NT.look k d.l).getD 0))/\Below w.heap.size w w':=by
 obtain⟨v,q,h1,h2⟩:=h.ex;obtain⟨h3,-,-,h4⟩:=dir_some hd;have:=rhas_any n k h1 h2 h.few.len h3 (h.few.names _ (List.getElem_mem h3));rw[has_look,<-h4] at this;exact this
theorem DT.el {l:List DD}(h:DT base w rt rg l){n:Int}{d:Dr}(hd:toD l n=some d):∃ g cap,w.cell? ⟨rt,1,none⟩=some (.slice (some ⟨g,0,none⟩) l.length cap)/\ix l n<l.length/\l.length<=cap/\w.cell? ⟨g,ix l n*3+1,none⟩=some (.int .i64 d.up):=by
 obtain⟨v,q,h1,h2⟩:=h.ex;obtain⟨h3,-,h4,-⟩:=dir_some hd;have hl:=h2.len;obtain⟨g,cap,rfl,-,-,-,h5,-,-,-,h6,-⟩:=h1.el (i:=ix l n) (by omega);have h7:=h1.box.cell (j:=1) rfl;rw[hl] at h7 h5;refine⟨g,cap,h7,h3,h5,?_⟩;rw[h6,(h2.at_ (ix l n) (by omega) h3).up,h4]
theorem goes_drop (D:Ds)(l:List ByteArray)(j:Nat)(hj:j<l.length)(a:Int):NT.goes D a (l.drop j)=(match NT.step D a l[j] with | .error e=>.error e | .ok m=>NT.goes D m (l.drop (j+1))):=by
 rw[List.drop_eq_getElem_cons hj]
 rfl
theorem rgoes_any (ns:List ByteArray)(ao:Option Addr)(nn cap:Nat){l:List DD}(w:World)(h:DT base w rt rg l)(hl:SS w ao nn cap ns)(hnn:nn<=100000) :
 Calls prog 160 #[.pointer (some ⟨rt,0,none⟩),.slice ao nn cap] w fun e w'=>e=.returned (.tuple #[.int .i64 (nu (NT.goes (toD l) 1 ns)),.int .i64 (er (NT.goes (toD l) 1 ns))])/\Below w.heap.size w w':=by
 have H:=Wd (And.intro h hl);have hlen:=hl.1;obtain⟨R,hR⟩:∃ R,NT.goes (toD l) 1 ns=R:=⟨_,rfl⟩;rw[hR];have hR0:NT.goes (toD l) 1 (ns.drop 0)=R:=hR;have hnl:=Wd hlen;clear h hl hR hlen;go_enter func160,ntmps160
 go_wp2_with fail
 go_loopw [6,7] (fun a i wr=>∃ (j:Nat) (at_:Int),j<=nn/\i=.int .i64 (j:Int)/\a=.int .i64 at_/\Hid (NT.goes (toD l) at_ (ns.drop j)=R)/\Hid (Below w.heap.size w wr)) (fun _ i _=>nn-(intOf i).toNat)
 case atStart=>exact⟨0,1,Nat.zero_le _,rfl,rfl,Wd hR0,Wd (Below.refl _ _)⟩
 case round=>
  obtain⟨j,a,hj,rfl,rfl,hg,hb⟩:=hrel;have hT:=H.out.1.keep hb.out
  by_cases hlt:j<nn
  ·obtain⟨blk,off,rfl,hcc⟩:=(H.out.2.below hb.out (Nat.le_refl _)).at_ (by omega);have hc:=hcc j hlt;clear hcc;have hjn:j<ns.length:=by rw[hnl.out];exact hlt
   have hd:=goes_drop (toD l) ns j hjn a;rw[hg.out] at hd;obtain⟨x,hx⟩:∃ x,ns[j]'hjn=x:=⟨_,rfl⟩;simp only[hx] at hc hd;have cD:=dir_t a hT
   cases hD:toD l a with
   | none=>
     rw[dir_none hD] at cD;have hst:NT.step (toD l) a x=.error 13:=by unfold NT.step;rw[hD]
     rw[hst] at hd;simp only at hd;subst hd;clear hT hD hst hx hjn hg;replace cD:=Wd cD;go_wp2_with fail
     refine cD.out.mono ?_;rintro e w1 ⟨rfl,rfl⟩;go_wp2_with fail
     go_ret2
     exact⟨rfl,hb.out⟩
   | some d=>
     obtain⟨h3,h4,-,-⟩:=dir_some hD;rw[h4] at cD;have cH:=Wd (fun W (hbb:Below w.heap.size w W)=>has_t a x (H.out.1.keep hbb) hD);obtain⟨g,cp,e1,-,hcp,e2⟩:=hT.el hD;have hno:=fun j2 (h2:NT.look x d.l=some j2)=>hT.few.look hD h2;generalize ix l a=p at *;have hp:(p:Int)<(l.length:Int):=by omega
     obtain⟨NL,hNL⟩:∃ NL,l.length=NL:=⟨_,rfl⟩;rw[hNL] at hp e1 hcp h3;replace cD:=Wd cD
     by_cases k1:x=PM.dot
     ·have f1:=dot_yes k1;have hst:NT.step (toD l) a x=.ok a:=by unfold NT.step;rw[hD];simp[k1]
      rw[hst] at hd;have hd:=Wd (show NT.goes (toD l) a (ns.drop (j+1))=R from hd.symm);clear hT hD hst hx hjn hg hno k1 h4 hNL e1 e2 hp cH;go_wp2_with fail
      refine cD.out.mono ?_;rintro e w1 ⟨rfl,rfl⟩;go_wp2_with fail
      go_roundw
      case rel=>exact⟨j+1,a,by omega,by go_num,rfl,hd,hb⟩
      case measure=>simp[intOf];omega
     ·obtain⟨f1,f2⟩:=dot_no k1
      by_cases k2:x=PM.dots
      ·have f3:=dots_yes k2;have hst:NT.step (toD l) a x=.ok d.up:=by unfold NT.step;rw[hD];simp[k1,k2,PM.dot_ne.symm]
       rw[hst] at hd;have hd:=Wd (show NT.goes (toD l) d.up (ns.drop (j+1))=R from hd.symm);clear hT hD hst hx hjn hg hno k1 k2 h4 hNL cH;go_wp2_with fail
       refine cD.out.mono ?_;rintro e w1 ⟨rfl,rfl⟩;go_wp2_with fail
       go_roundw
       case rel=>exact⟨j+1,d.up,by omega,by go_num,rfl,hd,hb⟩
       case measure=>simp[intOf];omega
      ·obtain⟨f3,f4⟩:=dots_no k2
       cases hlk:NT.look x d.l with
       | none=>
         have hst:NT.step (toD l) a x=.error 11:=by unfold NT.step;rw[hD];simp[k1,k2,hlk]
         rw[hst] at hd;simp only at hd;subst hd;rw[hlk] at cH;simp only[Option.getD_none] at cH;have cH1:=Wd (cH.out _ hb.out);clear hT hD hst hx hjn hg hno k1 k2 h4 hNL hlk cH e1 e2 hp;go_wp2_with fail
         refine cD.out.mono ?_;rintro e w1 ⟨rfl,rfl⟩;go_wp2_with fail
         refine cH1.out.mono ?_;rintro e w1 ⟨rfl,b1⟩;go_wp2_with fail
         go_ret2
         exact⟨rfl,hb.out.trans (b1.mono hb.out.size)⟩
       | some j2=>
         have hst:NT.step (toD l) a x=.ok j2:=by unfold NT.step;rw[hD];simp[k1,k2,hlk]
         rw[hst] at hd;have hd:=Wd (show NT.goes (toD l) j2 (ns.drop (j+1))=R from hd.symm);have hj2:=hno j2 hlk;rw[hlk] at cH;simp only[Option.getD_some] at cH;have cH1:=Wd (cH.out _ hb.out);clear hT hD hst hx hjn hg hno k1 k2 h4 hNL hlk cH e1 e2 hp;go_wp2_with fail
         refine cD.out.mono ?_;rintro e w1 ⟨rfl,rfl⟩;go_wp2_with fail
         refine cH1.out.mono ?_;rintro e w1 ⟨rfl,b1⟩;have hb2:=Wd (hb.out.trans (b1.mono hb.out.size));clear b1;go_wp2_with fail
         go_roundw
         case rel=>exact⟨j+1,j2,by omega,by go_num,rfl,hd,hb2⟩
         case measure=>simp[intOf];omega
  ·obtain rfl:j=nn:=by omega
   have hd:=hg.out;rw[List.drop_eq_nil_of_le (by rw[hnl.out];exact Nat.le_refl _)] at hd;have hd:R=.ok a:=hd.symm;subst hd;clear hg hT;go_wp2_with fail
   go_ret2
   exact⟨rfl,hb.out⟩
end
end RN
namespace RN
open IN (Keeps)
open NT (Dr Ds er nu findR)
theorem rparsed {s:ByteArray}{w:World}(hs:s.size<=maxLen):Calls prog 133 #[.string s] w fun e w'=>∃ ao n cap,e=.returned (.tuple #[.agg #[.bool (PM.pA s),.slice ao n cap,.bool (PM.pD s)],.int .i64 (PM.perr s)])/\SS w' ao n cap (PM.pN s)/\Below w.heap.size w w':=
 (rParse_all s w hs).mono fun e w' h=>by
  obtain⟨v,rfl,hown,hb⟩:=h;obtain⟨ao,cap,rfl⟩:=own_form hown;exact⟨ao,_,cap,rfl,SS_own hown,hb⟩
theorem pN_len (s:ByteArray):(PM.pN s).length<=100000:=by
 by_cases h:PM.perr s=0
 ·have:=PM.valid_count (PM.parse_valid h).1
  omega
 ·have:PM.pN s=[]:=by unfold PM.pN;rw[if_neg h]
  rw[this];exact Nat.zero_le _
section
variable {base:Nat}{w w':World}{rt rg:Nat}
theorem rFind_any (s:ByteArray)(hs:s.size<=maxLen){l:List DD}(w:World)(h:DT base w rt rg l) :
 Calls prog 120 #[.pointer (some ⟨rt,0,none⟩),.string s] w fun e w'=>e=.returned (.tuple #[.int .i64 (nu (findR (toD l) s)),.int .i64 (er (findR (toD l) s))])/\Below w.heap.size w w':=by
 have cP:=fun w=>Wd (rparsed (w:=w) hs);have cG:=Wd (fun (ao:Option Addr) (n cap:Nat) (W:World) (hb:Below w.heap.size w W) (hl:SS W ao n cap (PM.pN s))=>rgoes_any (PM.pN s) ao n cap W (h.keep hb) hl (by have:=hl.1;have:=pN_len s;omega));have cD:=Wd (fun (n:Int) (W:World) (hb:Below w.heap.size w W)=>dir_t n (h.keep hb));unfold findR;generalize PM.perr s=pe at cP ⊢
 by_cases h0:pe=0
 ·subst h0;rw[if_pos rfl];generalize PM.pN s=ns at cP cG ⊢;generalize PM.pD s=d at cP ⊢;generalize PM.pA s=a at cP
  cases hg:NT.goes (toD l) 1 ns with
  | error e0=>
    have hf:NT.find (toD l) ns d=.error e0:=by unfold NT.find;rw[hg]
    have hne:(e0 == 0)=false:=by simpa using NT.goes_er hg
    rw[hf];rw[hg] at cG;simp only[nu,er] at cG ⊢;clear h hf hg;go_enter func120,ntmps120
    go_wp2_with fail
    refine (cP _).out.mono ?_;rintro e w2 ⟨ao,n,cap,rfl,hS,b2⟩;have p2:Blk (w2.alloc (.cells #[.bool a,.slice ao n cap,.bool d] 146)) w2.heap.size 146 [.bool a,.slice ao n cap,.bool d]:=Blk.new _ _ _ rfl;have b3:=b2.alloc b2.size (.cells #[.bool a,.slice ao n cap,.bool d] 146);have cG1:=Wd (cG.out ao n cap _ b3 (hS.alloc _));have c1:=p2.cell (j:=1) rfl;have B3:=Wd b3;clear b2 b3 p2 hS cG;go_wp2_with fail
    refine cG1.out.mono ?_;rintro e w3 ⟨rfl,b4⟩;go_wp2_with fail
    go_ret2
    exact⟨rfl,B3.out.trans (b4.mono B3.out.size)⟩
  | ok m=>
    have hf:NT.find (toD l) ns d=if d=true/\toD l m=none then .error 13 else .ok m:=by unfold NT.find;rw[hg]
    rw[hf];rw[hg] at cG;simp only[nu,er] at cG
    cases d with
    | false=>
      rw[if_neg (by simp)];simp only[nu,er];clear h hf hg;go_enter func120,ntmps120
      go_wp2_with fail
      refine (cP _).out.mono ?_;rintro e w2 ⟨ao,n,cap,rfl,hS,b2⟩;have p2:Blk (w2.alloc (.cells #[.bool a,.slice ao n cap,.bool false] 146)) w2.heap.size 146 [.bool a,.slice ao n cap,.bool false]:=Blk.new _ _ _ rfl;have b3:=b2.alloc b2.size (.cells #[.bool a,.slice ao n cap,.bool false] 146);have cG1:=Wd (cG.out ao n cap _ b3 (hS.alloc _));have c1:=p2.cell (j:=1) rfl;have B3:=Wd b3;replace p2:=Wd p2;clear b2 b3 hS cG;go_wp2_with fail
      refine cG1.out.mono ?_;rintro e w3 ⟨rfl,b4⟩;have c2:=(p2.out.keep b4).cell (j:=2) rfl;have B4:=Wd (B3.out.trans (b4.mono B3.out.size));clear b4 c1;go_wp2_with fail
      go_ret2
      exact⟨rfl,B4.out⟩
    | true=>
      have cDm:=Wd (fun (W:World) (hb:Below w.heap.size w W)=>cD.out m W hb)
      cases hD:toD l m with
      | none=>
        rw[if_pos ⟨rfl,rfl⟩];simp only[dir_none hD] at cDm;simp only[nu,er];clear h hf hg hD cD;go_enter func120,ntmps120
        go_wp2_with fail
        refine (cP _).out.mono ?_;rintro e w2 ⟨ao,n,cap,rfl,hS,b2⟩;have p2:Blk (w2.alloc (.cells #[.bool a,.slice ao n cap,.bool true] 146)) w2.heap.size 146 [.bool a,.slice ao n cap,.bool true]:=Blk.new _ _ _ rfl;have b3:=b2.alloc b2.size (.cells #[.bool a,.slice ao n cap,.bool true] 146);have cG1:=Wd (cG.out ao n cap _ b3 (hS.alloc _));have c1:=p2.cell (j:=1) rfl;have B3:=Wd b3;replace p2:=Wd p2;clear b2 b3 hS cG;go_wp2_with fail
        refine cG1.out.mono ?_;rintro e w3 ⟨rfl,b4⟩;have c2:=(p2.out.keep b4).cell (j:=2) rfl;have B4:=Wd (B3.out.trans (b4.mono B3.out.size));have cD1:=Wd (cDm.out _ B4.out);clear b4 c1;go_wp2_with (go_at_call 137;refine cD1.out.mono ?_;rintro e w4 ⟨rfl,rfl⟩)
        go_ret2
        exact⟨rfl,B4.out⟩
      | some dd=>
        obtain⟨-,h4,-,-⟩:=dir_some hD;rw[if_neg (by simp)];simp only[h4] at cDm;simp only[nu,er];generalize ix l m=K at cDm;clear h hf hg hD cD h4;go_enter func120,ntmps120
        go_wp2_with fail
        refine (cP _).out.mono ?_;rintro e w2 ⟨ao,n,cap,rfl,hS,b2⟩;have p2:Blk (w2.alloc (.cells #[.bool a,.slice ao n cap,.bool true] 146)) w2.heap.size 146 [.bool a,.slice ao n cap,.bool true]:=Blk.new _ _ _ rfl;have b3:=b2.alloc b2.size (.cells #[.bool a,.slice ao n cap,.bool true] 146);have cG1:=Wd (cG.out ao n cap _ b3 (hS.alloc _));have c1:=p2.cell (j:=1) rfl;have B3:=Wd b3;replace p2:=Wd p2;clear b2 b3 hS cG;go_wp2_with fail
        refine cG1.out.mono ?_;rintro e w3 ⟨rfl,b4⟩;have c2:=(p2.out.keep b4).cell (j:=2) rfl;have B4:=Wd (B3.out.trans (b4.mono B3.out.size));have cD1:=Wd (cDm.out _ B4.out);clear b4 c1;go_wp2_with (go_at_call 137;refine cD1.out.mono ?_;rintro e w4 ⟨rfl,rfl⟩)
        go_ret2
        exact⟨rfl,B4.out⟩
 ·rw[if_neg h0];have hne:(pe == 0)=false:=by simpa using h0
  simp only[nu,er];clear h h0 cG cD;generalize PM.pN s=ns at cP;generalize PM.pD s=d at cP;generalize PM.pA s=a at cP;go_enter func120,ntmps120
  go_wp2_with fail
  refine (cP _).out.mono ?_;rintro e w2 ⟨ao,n,cap,rfl,hS,b2⟩;have B3:=Wd (b2.alloc b2.size (.cells #[.bool a,.slice ao n cap,.bool d] 146));clear b2 hS;go_wp2_with fail
  go_ret2
  exact⟨rfl,B3.out⟩
end
end RN
namespace RN
open IN (Keeps)
open NT (Dr Ds er nu findR)
section
variable {base:Nat}{w w':World}{rt rg:Nat}
def lstA (l:List DD)(s:ByteArray):Except Int (List (ByteArray×Int×Int)):=match findR (toD l) s with
 | .error e=>.error e
 | .ok n=>if h:ix l n<l.length then .ok l[ix l n].l else .error 13
theorem findR_er {D:Ds}{s:ByteArray}{e:Int}(h:findR D s=.error e):e≠0:=by
 unfold findR at h
 split at h
 ·exact NT.find_er h
 ·rename_i h2
  cases h
  exact h2
theorem NE.nil (w:World):NE w (.slice none 0 0) []:=⟨0,World.ownsRow_nil _ _ _ _⟩
theorem DT.at_l {l:List DD}(h:DT base w rt rg l){n:Int}(hn:ix l n<l.length):∃ g cap v,w.cell? ⟨rt,1,none⟩=some (.slice (some ⟨g,0,none⟩) l.length cap)/\l.length<=cap/\w.cell? ⟨g,ix l n*3+2,none⟩=some v/\NE w v l[ix l n].l:=by
 obtain⟨v,q,h1,h2⟩:=h.ex;have hl:=h2.len;obtain⟨g,cap,rfl,-,-,-,h5,-,-,-,-,h6⟩:=h1.el (i:=ix l n) (by omega);have h7:=h1.box.cell (j:=1) rfl;rw[hl] at h7 h5;exact⟨g,cap,_,h7,h5,h6,(h2.at_ (ix l n) (by omega) hn).v⟩
theorem ss_cut {w:World}{ao:Option Addr}{n cap k:Nat}{l:List ByteArray}(h:SS w ao n cap l)(hk:k<=n):SS w ao k cap (l.take k):=by
 obtain⟨h1,h2,h3,h4,h5⟩:=h;refine⟨by rw[List.length_take];omega,by omega,h3,h4,fun a ha j u hu=>h5 a ha j u ?_⟩;unfold scl at hu ⊢;rw[List.map_take,List.getElem?_take] at hu
 split at hu
 ·exact hu
 ·cases hu
theorem last_at (ns:List ByteArray)(N:Nat)(h:ns.length=N)(hh:N-1<ns.length):ns[N-1]=NT.last ns:=by
 subst h;unfold NT.last;rw[List.getD_eq_getElem?_getD,List.getElem?_eq_getElem hh]
 rfl
def plA (D:Ds)(ns:List ByteArray):(Int×ByteArray)×Int:=match NT.goes D 1 ns.dropLast with
 | .error e=>((0,⟨#[]⟩),e)
 | .ok n=>if D n=none then ((0,⟨#[]⟩),13) else ((n,NT.last ns),0)
theorem rplace_any (a d:Bool)(ns:List ByteArray)(ao:Option Addr)(N cap:Nat){l:List DD}(w:World)(h:DT base w rt rg l)(hl:SS w ao N cap ns)(h0:0<N)(hN:N<=100000) :
 Calls prog 134 #[.pointer (some ⟨rt,0,none⟩),.agg #[.bool a,.slice ao N cap,.bool d]] w fun e w'=>e=.returned (.tuple #[.int .i64 (plA (toD l) ns).1.1,.string (plA (toD l) ns).1.2,.int .i64 (plA (toD l) ns).2])/\Below w.heap.size w w':=by
 have b0:=(Below.refl w.heap.size w).alloc (Nat.le_refl _) (.cells #[.bool a,.slice ao N cap,.bool d] 146);have p0:Blk (w.alloc (.cells #[.bool a,.slice ao N cap,.bool d] 146)) w.heap.size 146 [.bool a,.slice ao N cap,.bool d]:=Blk.new _ _ _ rfl;have hlen:=hl.1;have hl0:=hl.below b0 (Nat.le_refl _);obtain⟨blk,off,rfl,hat⟩:=hl0.at_ h0;have hat1:=hat (N-1) (by omega);have hlast:ns[N-1]'(by omega)=NT.last ns:=last_at ns N hlen (by omega);rw[hlast] at hat1;have HL:=Wd hl0;have cG:=Wd (rgoes_any (ns.take (N-1)) (some ⟨blk,off,none⟩) (N-1) cap _ (h.keep b0) (ss_cut hl0 (by omega)) (by omega));have hdl:ns.dropLast=ns.take (N-1):=by rw[List.dropLast_eq_take,hlen]
 unfold plA;rw[hdl];have cD:=Wd (fun (n:Int) (W:World) (hb:Below w.heap.size w W)=>dir_t n (h.keep hb));have hlim:N<=9223372036854775807:=by omega
 have hn1:(N:Int)-1=((N-1:Nat):Int):=by omega
 have hlt:((N-1:Nat):Int)<(N:Int):=by omega
 have c1:=p0.cell (j:=1) rfl;have hge:∀ e,NT.goes (toD l) 1 (ns.take (N-1))=.error e->e≠0:=fun e he=>NT.goes_er he;have hcp:=hl.2.1;generalize NT.last ns=z at hat1 ⊢;generalize NT.goes (toD l) 1 (ns.take (N-1))=R at cG hge ⊢;have p0:=Wd p0;have b0:=Wd b0;have hat1:=Wd hat1;clear hat hl hl0 hdl hlast
 cases R with
 | error e0=>
   have h0e:=hge e0 rfl;have hne:(e0 == 0)=false:=by simpa using h0e
   simp only[nu,er] at cG ⊢;clear h hge h0e cD;go_enter func134,ntmps134
   go_wp2_with fail
   refine cG.out.mono ?_;rintro e w1 ⟨rfl,b1⟩;go_wp2_with fail
   go_ret3
   exact⟨rfl,b0.out.trans (b1.mono b0.out.size)⟩
 | ok m=>
   simp only[nu,er] at cG ⊢;have cDm:=Wd (fun (W:World) (hb:Below w.heap.size w W)=>cD.out m W hb)
   cases hD:toD l m with
   | none=>
     rw[if_pos rfl];simp only[dir_none hD] at cDm;clear h hge cD hD;go_enter func134,ntmps134
     go_wp2_with fail
     refine cG.out.mono ?_;rintro e w1 ⟨rfl,b1⟩;have B1:=Wd (b0.out.trans (b1.mono b0.out.size));have cD1:=Wd (cDm.out _ B1.out);clear b1;go_wp2_with fail
     refine cD1.out.mono ?_;rintro e w2 ⟨rfl,rfl⟩;go_wp2_with fail
     go_ret3
     exact⟨rfl,B1.out⟩
   | some dd=>
     obtain⟨-,h4,-,-⟩:=dir_some hD;rw[if_neg (by simp)];simp only[h4] at cDm;generalize ix l m=K at cDm;clear h hge cD hD h4;go_enter func134,ntmps134
     go_wp2_with fail
     refine cG.out.mono ?_;rintro e w1 ⟨rfl,b1⟩;have B1:=Wd (b0.out.trans (b1.mono b0.out.size));have cD1:=Wd (cDm.out _ B1.out);have x1:=(p0.out.keep b1).cell (j:=1) rfl;have x2:w1.cell? ⟨blk,off+(N-1),none⟩=some (.string z):=by
      rw[b1.cell (World.block_lt_of_cell? _ _ hat1.out)];exact hat1.out
     clear b1 c1;go_wp2_with fail
     refine cD1.out.mono ?_;rintro e w2 ⟨rfl,rfl⟩;go_wp2_with fail
     go_quiet (fail)
     go_wp2_with fail
     go_ret3
     exact⟨rfl,B1.out.os,B1.out.tape,B1.out.output,B1.out.size,B1.out.block⟩
end
end RN
namespace RN
open IN (Keeps)
open NT (Dr Ds er nu findR)
section
variable {base:Nat}{w w':World}{rt rg:Nat}
def frA (D:Ds)(ns:List ByteArray)(kind:Int)(d:Bool):(Int×ByteArray)×Int:=match NT.placeC D ns 12 (NT.vac D kind (NT.last ns) d) with
 | .error e=>((0,⟨#[]⟩),e)
 | .ok p=>((p,NT.last ns),0)
theorem fr_nil (D:Ds)(kind:Int)(d:Bool):frA D [] kind d=((0,⟨#[]⟩),12):=rfl
theorem fr_err {D:Ds}{ns:List ByteArray}{kind:Int}{d:Bool}(hne:ns≠[])(h:(plA D ns).2≠0):frA D ns kind d=((0,⟨#[]⟩),(plA D ns).2):=by
 unfold frA NT.placeC NT.place plA at *;rw[if_neg hne]
 cases hg:NT.goes D 1 ns.dropLast with
 | error e=>rfl
 | ok n=>
   rw[hg] at h;simp only at h ⊢
   by_cases hD:D n=none
   ·rw[if_pos hD,if_pos hD]
   ·rw[if_neg hD] at h;exact absurd rfl h
theorem pl_ok {D:Ds}{ns:List ByteArray}(hne:ns≠[])(h:(plA D ns).2=0):∃ p dp,D p=some dp/\plA D ns=((p,NT.last ns),0)/\NT.place D ns 12=.ok p/\NT.place D ns 14=.ok p/\NT.place D ns 2=.ok p:=by
 unfold plA NT.place at *;rw[if_neg hne,if_neg hne,if_neg hne]
 cases hg:NT.goes D 1 ns.dropLast with
 | error e=>
   rw[hg] at h;exact absurd h (NT.goes_er hg)
 | ok n=>
   rw[hg] at h;simp only at h ⊢
   by_cases hD:D n=none
   ·rw[if_pos hD] at h;cases h
   ·obtain⟨dp,hdp⟩:=Option.ne_none_iff_exists'.1 hD;exact⟨n,dp,hdp,by rw[if_neg hD],by rw[if_neg hD],by rw[if_neg hD],by rw[if_neg hD]⟩
theorem fr_ok {D:Ds}{ns:List ByteArray}{kind:Int}{d:Bool}{p v:Int}(hp:NT.place D ns 12=.ok p)(hv:NT.vac D kind (NT.last ns) d p=v):frA D ns kind d=if v=0 then ((p,NT.last ns),0) else ((0,⟨#[]⟩),v):=by
 unfold frA NT.placeC;rw[hp];simp only[hv]
 by_cases h:v=0
 ·rw[if_pos h,if_pos h]
 ·rw[if_neg h,if_neg h]
theorem rfree_any (a d:Bool)(kind:Int)(ns:List ByteArray)(ao:Option Addr)(N cap:Nat){l:List DD}(w:World)(h:DT base w rt rg l)(hl:SS w ao N cap ns)(hN:N<=100000)(hcomp:∀ k∈ns,PM.comp k=true) :
 Calls prog 144 #[.pointer (some ⟨rt,0,none⟩),.agg #[.bool a,.slice ao N cap,.bool d],.int .i64 kind] w fun e w'=>e=.returned (.tuple #[.int .i64 (frA (toD l) ns kind d).1.1,.string (frA (toD l) ns kind d).1.2,.int .i64 (frA (toD l) ns kind d).2])/\Below w.heap.size w w':=by
 have b0:=(Below.refl w.heap.size w).alloc (Nat.le_refl _) (.cells #[.bool a,.slice ao N cap,.bool d] 146);have p0:Blk (w.alloc (.cells #[.bool a,.slice ao N cap,.bool d] 146)) w.heap.size 146 [.bool a,.slice ao N cap,.bool d]:=Blk.new _ _ _ rfl;have hlen:=hl.1;have c0:=p0.cell (j:=0) rfl;have c1:=p0.cell (j:=1) rfl;have c2:=p0.cell (j:=2) rfl
 by_cases hz:N=0
 ·subst hz;obtain rfl:=List.eq_nil_of_length_eq_zero hlen;rw[fr_nil];clear h hl p0;replace b0:=Wd b0;go_enter func144,ntmps144
  go_wp2_with fail
  go_ret3
  exact⟨rfl,b0.out⟩
 ·have hne:ns≠[]:=fun e=>by rw[e] at hlen;simp at hlen;omega
  have hN0:((N:Int) == 0)=false:=by simp;omega
  have hN1:¬ (N:Int)=0:=by omega
  have cP:=rplace_any a d ns ao N cap _ (h.keep b0) (hl.below b0 (Nat.le_refl _)) (by omega) hN
  by_cases hE:(plA (toD l) ns).2=0
  ·obtain⟨p,dp,hdp,hpl,hp12,-,-⟩:=pl_ok hne hE;have hfr:=fun v=>fr_ok (kind:=kind) (d:=d) (v:=v) hp12;rw[hpl] at cP;have hk:PM.comp (NT.last ns)=true:=by
    refine hcomp _ ?_
    have:=last_at ns ns.length rfl (by have:0<ns.length:=by omega
                                       omega)
    rw[<-this];exact List.getElem_mem _
   have cH:=Wd (fun W (hb:Below w.heap.size w W)=>has_t p (NT.last ns) (h.keep hb) hdp);have hno:=fun j2 (h2:NT.look (NT.last ns) dp.l=some j2)=>h.few.look hdp h2;have cT:=Wd (fun W=>rdots_any (NT.last ns) W);generalize NT.last ns=z at *;have hvac:NT.vac (toD l) kind z d p=if (NT.look z dp.l≠none∨(z=PM.dot∨z=PM.dots)) then 12 else if kind=1/\d=true then 14 else 0:=by
    unfold NT.vac NT.at_ PM.name;rw[hdp,hk]
    by_cases e1:z=PM.dot <;> by_cases e2:z=PM.dots <;> simp[e1,e2]
   simp only at cP;replace cP:=Wd cP;replace p0:=Wd p0;replace b0:=Wd b0
   by_cases hd:z=PM.dot∨z=PM.dots
   ·have hfr:=hfr 12 (by rw[hvac,if_pos (.inr hd)]);rw[if_neg (by decide)] at hfr;rw[hfr];simp only[decide_eq_true hd] at cT;clear h hl hdp hpl hp12 hfr hk hno hvac hd hE cH;go_enter func144,ntmps144
    go_wp2_with fail
    refine cP.out.mono ?_;rintro e w1 ⟨rfl,b1⟩;go_wp2_with fail
    refine (cT.out _).mono ?_;rintro e w2 ⟨rfl,rfl⟩;go_wp2_with fail
    go_ret3
    exact⟨rfl,b0.out.trans (b1.mono b0.out.size)⟩
   ·simp only[decide_eq_false hd] at cT
    cases hlk:NT.look z dp.l with
    | some j=>
      have hj:=hno j hlk;rw[hlk] at cH;have hfr:=hfr 12 (by rw[hvac,if_pos (.inl (by rw[hlk];simp))]);rw[if_neg (by decide)] at hfr;rw[hfr];simp only[Option.getD_some] at cH;clear h hl hdp hpl hp12 hfr hk hno hvac hd hE hlk;go_enter func144,ntmps144
      go_wp2_with fail
      refine cP.out.mono ?_;rintro e w1 ⟨rfl,b1⟩;have B1:=Wd (b0.out.trans (b1.mono b0.out.size));have cH1:=Wd (cH.out _ B1.out);clear b1;go_wp2_with fail
      refine (cT.out _).mono ?_;rintro e w2 ⟨rfl,rfl⟩;go_wp2_with (go_at_call 136;refine cH1.out.mono ?_;rintro e w3 ⟨rfl,b3⟩)
      go_ret3
      exact⟨rfl,B1.out.trans (b3.mono B1.out.size)⟩
    | none=>
      rw[hlk] at cH;have hvac:=hvac;rw[if_neg (by rw[hlk];simp[hd])] at hvac;simp only[Option.getD_none] at cH
      by_cases hk1:kind=1
      ·subst hk1
       cases d with
       | true=>
         have hfr:=hfr 14 (by rw[hvac,if_pos ⟨rfl,rfl⟩]);rw[if_neg (by decide)] at hfr;rw[hfr];clear h hl hdp hpl hp12 hfr hk hno hvac hd hE hlk;go_enter func144,ntmps144
         go_wp2_with fail
         refine cP.out.mono ?_;rintro e w1 ⟨rfl,b1⟩;have B1:=Wd (b0.out.trans (b1.mono b0.out.size));have cH1:=Wd (cH.out _ B1.out);have p1:=Wd (p0.out.keep b1);clear b1 c0 c1 c2;go_wp2_with fail
         refine (cT.out _).mono ?_;rintro e w2 ⟨rfl,rfl⟩;go_wp2_with (go_at_call 136;refine cH1.out.mono ?_;rintro e w3 ⟨rfl,b3⟩;have c3:=(p1.out.keep b3).cell (j:=2) rfl)
         go_ret3
         exact⟨rfl,B1.out.trans (b3.mono B1.out.size)⟩
       | false=>
         have hfr:=hfr 0 (by rw[hvac,if_neg (by simp)]);rw[if_pos rfl] at hfr;rw[hfr];clear h hl hdp hpl hp12 hfr hk hno hvac hd hE hlk;go_enter func144,ntmps144
         go_wp2_with fail
         refine cP.out.mono ?_;rintro e w1 ⟨rfl,b1⟩;have B1:=Wd (b0.out.trans (b1.mono b0.out.size));have cH1:=Wd (cH.out _ B1.out);have p1:=Wd (p0.out.keep b1);clear b1 c0 c1 c2;go_wp2_with fail
         refine (cT.out _).mono ?_;rintro e w2 ⟨rfl,rfl⟩;go_wp2_with (go_at_call 136;refine cH1.out.mono ?_;rintro e w3 ⟨rfl,b3⟩;have c3:=(p1.out.keep b3).cell (j:=2) rfl)
         go_ret3
         exact⟨rfl,B1.out.trans (b3.mono B1.out.size)⟩
      ·have hfr:=hfr 0 (by rw[hvac,if_neg (fun h=>hk1 h.1)]);rw[if_pos rfl] at hfr;rw[hfr];have hk2:(kind == 1)=false:=by simpa using hk1
       clear h hl hdp hpl hp12 hfr hk hno hvac hd hE hlk;go_enter func144,ntmps144
       go_wp2_with fail
       refine cP.out.mono ?_;rintro e w1 ⟨rfl,b1⟩;have B1:=Wd (b0.out.trans (b1.mono b0.out.size));have cH1:=Wd (cH.out _ B1.out);clear b1;go_wp2_with fail
       refine (cT.out _).mono ?_;rintro e w2 ⟨rfl,rfl⟩;go_wp2_with (go_at_call 136;refine cH1.out.mono ?_;rintro e w3 ⟨rfl,b3⟩)
       go_ret3
       exact⟨rfl,B1.out.trans (b3.mono B1.out.size)⟩
  ·rw[fr_err hne hE];generalize (plA (toD l) ns).1.1=x1 at cP;generalize (plA (toD l) ns).1.2=x2 at cP;generalize (plA (toD l) ns).2=E at cP hE ⊢;have hE0:(E == 0)=false:=by simpa using hE
   replace cP:=Wd cP;replace b0:=Wd b0;clear h hl p0;go_enter func144,ntmps144
   go_wp2_with fail
   refine cP.out.mono ?_;rintro e w1 ⟨rfl,b1⟩;go_wp2_with fail
   go_ret3
   exact⟨rfl,b0.out.trans (b1.mono b0.out.size)⟩
end
end RN
namespace RN
open IN (Keeps)
open NT (Dr Ds er nu findR)
def RT (_:Nat)(o:Obj):Prop:=(∃ c s,o=.cells c 156 s)∨∃ c s,o=.cells c 153 s
section
variable {base:Nat}{w w':World}{rt rg:Nat}{v:Value}{q:List QE}
theorem DM.set {g cap N:Nat}(h:DM base w rt rg (.slice (some ⟨g,0,none⟩) N cap) q)(hN:q.length=N){i:Nat}(hi:i<q.length)(m:Nat)(u:Value)(hm:m<3)(x:QE)(hx:(qrow q[i]).set m u=qrow x) :
 DM base (w.setCell ⟨g,i*3+m,none⟩ u) rt rg (.slice (some ⟨g,0,none⟩) N cap) (q.set i x)/\Keeps base RT w (w.setCell ⟨g,i*3+m,none⟩ u):=by
 subst hN;obtain⟨g',cap',e,hb,hlt,hne,-⟩:=h.el hi;simp only[Value.slice.injEq,Option.some.injEq,Addr.mk.injEq,and_true,true_and] at e;obtain⟨rfl,rfl⟩:=e;have hs:=(h.row.stored (i*3+m) u).1;rw[qcl_set q i hi m u hm x hx] at hs;refine⟨⟨h.box.far (p:=⟨g,i*3+m,none⟩) (fun e=>hne e.symm) u,by rw[List.length_set];exact hs,h.ge⟩,?_⟩;rcases h.row.2 with ⟨e,_⟩|⟨g',cap',cur,e,_,hg,_⟩
 ·simp at e
 ·simp only[Value.slice.injEq,Option.some.injEq,Addr.mk.injEq,and_true,true_and] at e;obtain⟨rfl,rfl⟩:=e;exact (Keeps.refl base RT w).setCell (p:=⟨g,i*3+m,none⟩) hg (.inr ⟨_,_,rfl⟩) hb u
def setL (x:DD)(nl:List (ByteArray×Int×Int)):DD:=⟨x.ino,x.up,nl⟩
theorem DT.names {l:List DD}{n:Int}(h:DT base w rt rg l)(hn:ix l n<l.length):∃ g cap,w.cell? ⟨rt,1,none⟩=some (.slice (some ⟨g,0,none⟩) l.length cap)/\l.length<=cap/\base<=g/\g<w.heap.size/\(∀ j,w.frozen? ⟨g,j,none⟩=false)/\∀ (w1:World) (hb:Below w.heap.size w w1) (u:Value) (nl:List (ByteArray×Int×Int)),NE w1 u nl->nl.length<=100000->(∀ y∈nl,y.2.1≠0) ->
 DT base (w1.setCell ⟨g,ix l n*3+2,none⟩ u) rt rg (l.set (ix l n) (setL l[ix l n] nl))/\Keeps base RT w (w1.setCell ⟨g,ix l n*3+2,none⟩ u):=by
 obtain⟨v,q,h1,h2⟩:=h.ex;have hl:=h2.len;obtain⟨g,cap,rfl,hbg,hg,-,h5,-,hfz,-⟩:=h1.el (i:=ix l n) (by omega);have h7:=h1.box.cell (j:=1) rfl;rw[hl] at h7 h5;refine⟨g,cap,h7,h5,hbg,hg,hfz,fun w1 hb u nl hNE hlen hnos=>?_⟩;have hq:ix l n<q.length:=by omega
 obtain⟨s1,s2⟩:=(h1.keep hb).set rfl hq 2 u (by decide) ⟨q[ix l n].ino,q[ix l n].up,u⟩ rfl;have hF:=h2.keep hb;have hQ:=hF.at_ (ix l n) hq hn;refine⟨⟨⟨_,_,s1,(hF.set (ix l n) (x:=⟨q[ix l n].ino,q[ix l n].up,u⟩) (y:=setL l[ix l n] nl) ⟨hQ.ino,hQ.up,hNE⟩).keeps s2 (by simp[RT])⟩,⟨by rw[List.length_set];exact h.few.len,fun x hx=>?_,fun x hx=>?_⟩⟩,(Keeps.new hb h1.low).trans s2⟩
 ·rcases List.mem_or_eq_of_mem_set hx with hx|rfl
  ·exact h.few.names x hx
  ·exact hlen
 ·rcases List.mem_or_eq_of_mem_set hx with hx|rfl
  ·exact h.few.nos x hx
  ·exact hnos
theorem range_three {w:World}{g o:Nat}{a b c:Value}(h0:w.cell? ⟨g,o,none⟩=some a)(h1:w.cell? ⟨g,o+1,none⟩=some b)(h2:w.cell? ⟨g,o+2,none⟩=some c):w.rangeAt g o [a,b,c]:=by
 intro j v hj
 match j,hj with
 | 0,hj=>cases hj;exact h0
 | 1,hj=>cases hj;exact h1
 | 2,hj=>cases hj;exact h2
theorem krow_src (w:World)(x:ByteArray×Int×Int):Own.Src (w.alloc (.cells #[.string x.1,.int .i64 x.2.1,.int .i64 x.2.2] 201)) 3 (.slice (some ⟨w.heap.size,0,none⟩) 1 1) 1 (kcl [x]):=by
 rw[kcl_one];exact NT.nm_src _ _ _ _ _ (Blk.new w 201 [.string x.1,.int .i64 x.2.1,.int .i64 x.2.2] rfl)
theorem krow_one (x:ByteArray×Int×Int):∀ u∈kcl [x],u.oneCell'=true:=by
 rw[kcl_one];exact NT.nm_one _ _ _
def dropL (k:ByteArray)(l:List (ByteArray×Int×Int)):List (ByteArray×Int×Int):=l.filter fun x=>decide (x.1≠k)
theorem take_snoc3 (l:List (ByteArray×Int×Int))(j:Nat)(h:j<l.length)(k:ByteArray):dropL k (l.take (j+1))=dropL k (l.take j) ++ (if l[j].1=k then [] else [l[j]]):=by
 rw[List.take_succ_eq_append_getElem h];unfold dropL;rw[List.filter_append]
 congr 1
 by_cases e:l[j].1=k <;> simp[e]
theorem rdrop_any (n:Int)(k:ByteArray){l:List DD}(w:World)(h:DT base w rt rg l)(hn:ix l n<l.length) :
 Calls prog 138 #[.pointer (some ⟨rt,0,none⟩),.int .i64 n,.string k] w fun e w'=>e=.returned (.tuple #[])/\DT base w' rt rg (l.set (ix l n) (setL l[ix l n] (dropL k l[ix l n].l)))/\Keeps base RT w w':=by
 have hda:dirA l n=(ix l n:Int):=by unfold dirA;rw[if_pos hn]
 have cD:=dir_t n h;rw[hda] at cD;obtain⟨g,cap,v,c1,hcap,c2,hNE⟩:=h.at_l hn;obtain⟨g',cap',c1',-,hbg,hgl,hfz,hset⟩:=h.names hn;rw[c1] at c1';simp only[Option.some.injEq,Value.slice.injEq,Addr.mk.injEq,and_true,true_and] at c1';obtain⟨rfl,rfl⟩:=c1'
 have HF:=Wd (fun (W:World) (hb:Below w.heap.size w W)=>show ∀ j,W.frozen? ⟨g,j,none⟩=false from by
  obtain⟨g2,cap2,c2',-,-,-,hf2,-⟩:=(h.keep hb).names hn;have:=(hb.cell (World.block_lt_of_cell? w _ c1)).trans c1;rw[this] at c2';simp only[Option.some.injEq,Value.slice.injEq,Addr.mk.injEq,and_true,true_and] at c2';rw[c2'.1]
  exact hf2)
 have hlen:=h.few.names _ (List.getElem_mem hn);have hnos:=h.few.nos _ (List.getElem_mem hn);generalize l[ix l n]=X at *;obtain⟨xi,xu,nl⟩:=X;simp only[setL] at *;have hset:=Wd hset;have hnos:=Wd hnos;generalize l.set (ix l n)=Y at *;have hK:((ix l n:Nat):Int)<(l.length:Int):=by omega
 generalize ix l n=K at *;generalize hL:l.length=LL at *;obtain⟨ao,cc,rfl⟩:=hNE.form;obtain⟨N,hN⟩:∃ N,nl.length=N:=⟨_,rfl⟩;rw[hN] at c2 hNE hlen;have hNE:=Wd hNE;replace hN:=Wd hN;replace cD:=Wd cD;have hgl1:=World.block_lt_of_cell? w _ c1;clear h hn hda hL;have HC:=Wd (And.intro c1 (And.intro c2 (And.intro hfz (And.intro hgl hgl1))));clear c1 c2 hfz hgl hgl1;go_enter func138,ntmps138
 go_wp2_with fail
 refine cD.out.mono ?_;rintro e w1 ⟨rfl,rfl⟩;go_wp2_with fail
 go_loopw [8,7] (fun i out wr=>∃ (j m:Nat),j<=N/\m<=j/\i=.int .i64 (j:Int)/\Hid (wr.ownsRow w.heap.size 201 3 out m (kcl (dropL k (nl.take j))))/\Hid (Below w.heap.size w wr)) (fun i _ _=>N-(intOf i).toNat)
 case atStart=>exact⟨0,0,Nat.zero_le _,Nat.le_refl _,rfl,Wd (World.ownsRow_nil _ _ _ _),Wd (Below.refl _ _)⟩
 case round=>
  obtain⟨j,m,hj,hm,rfl,hown,hb⟩:=hrel;have c1:wr.cell? ⟨rt,1,none⟩=_:=(hb.out.cell HC.out.2.2.2.2).trans HC.out.1;have c2:wr.cell? ⟨g,K*3+2,none⟩=_:=(hb.out.cell HC.out.2.2.2.1).trans HC.out.2.1
  by_cases hlt:j<N
  ·have hjn:j<nl.length:=by rw[hN.out];exact hlt
   have hNr:=(show NE w (.slice ao nl.length cc) nl by rw[hN.out];exact hNE.out).move (w':=wr) fun b cur hc=>hb.out.block b (IN.lt_of_some hc);obtain⟨g2,cc2,hv,hg2,-,-,s0,s1,s2⟩:=hNr.el hjn;simp only[Value.slice.injEq] at hv;obtain⟨rfl,-,-⟩:=hv;have htk:=take_snoc3 nl j hjn k;obtain⟨⟨y1,y2,y3⟩,hy⟩:∃ y,nl[j]=y:=⟨_,rfl⟩;rw[hy] at s0 s1 s2 htk;simp only at s0 s1 s2 htk;have hR:=Wd (range_three s0 s1 s2);clear hNr hjn hy
   by_cases hk:y1=k
   ·subst hk;rw[if_pos rfl,List.append_nil] at htk;rw[<-htk] at hown;clear htk s1 s2;go_wp2_with fail
    go_roundw
    case rel=>exact⟨j+1,m,by omega,by omega,by go_num,hown,hb⟩
    case measure=>simp[intOf];omega
   ·rw[if_neg hk] at htk;have hx1:(y1.toList == k.toList)=false:=by
     simp only[beq_eq_false_iff_ne,ne_eq];exact fun e=>hk (list_inj e)
    have hx2:(y1.toList=k.toList)=False:=eq_false fun e=>hk (list_inj e);replace htk:=Wd htk;have hsrc:=Wd (krow_src wr (y1,y2,y3));have hob:=Wd (Own.below hown.out ((Below.refl _ wr).alloc (Nat.le_refl _) (.cells #[.string y1,.int .i64 y2,.int .i64 y3] 201)));have hb2:=Wd (hb.out.alloc hb.out.size (.cells #[.string y1,.int .i64 y2,.int .i64 y3] 201));have hws:=hb.out.size;clear hk s1 s2
    go_wp2_with (first
     | (refine wpList_load_mid rfl 201 (.tmp 49) rfl g2 (j*3) rfl [.string y1,.int .i64 y2,.int .i64 y3] _ hR.out underlying201 rfl (by kernel_rfl) ?_)
     | (at_builtin;refine Own.wpList_app rfl (.tmp 39) (.tmp 51) 151 rfl underlying151 NT.info_name _ (.slice (some ⟨wr.heap.size,0,none⟩) 1 1) rfl rfl hob.out (by simp;omega) hsrc.out (krow_one _) (by unfold maxLen;omega) (by omega) ?_;intro v' w8 ho8 hg8 hb8))
    have hown9:Hid (w8.ownsRow w.heap.size 201 3 v' (m+1) (kcl (dropL k (nl.take (j+1))))):=Wd (by rw[htk.out,kcl_app];exact ho8);have hb9:Hid (Below w.heap.size w w8):=Wd (hb2.out.grown hg8 hb2.out.size (fun q hq=>Own.ge hob.out q hq));go_roundw
    case rel=>exact⟨j+1,m+1,by omega,by omega,by go_num,hown9,hb9⟩
    case measure=>simp[intOf];omega
  ·obtain rfl:j=N:=by omega
   have hfz:=HF.out wr hb.out;have hown9:=hown.out;rw[List.take_of_length_le (Nat.le_of_eq hN.out)] at hown9;obtain⟨ao3,c3,rfl⟩:=Own.form hown9;have hlm:(dropL k nl).length=m:=by
    have:=hown9.1;rw[kcl_len] at this
    omega
   have hfin:=Wd (hset.out wr hb.out _ (dropL k nl) ⟨w.heap.size,by rw[hlm];exact hown9⟩ (by rw[hlm];omega) (fun y hy=>hnos.out y ((List.mem_filter.1 hy).1)));clear hown9 hlm;go_wp2_with fail
   go_end0
   exact⟨rfl,hfin.out⟩
end
end RN
namespace RN
open IN (Keeps)
open NT (Dr Ds er nu findR)
section
variable {base:Nat}{w w':World}{rt rg:Nat}
end
end RN
namespace RN
open IN (Keeps)
open NT (Dr Ds er nu findR)
section
variable {base:Nat}{w w':World}{rt rg:Nat}
end
end RN
namespace RN
open IN (Keeps)
open NT (Dr Ds er nu findR)
def px:List (ByteArray×Int×Int)->ByteArray->Nat
 | [],_=>0
 | x :: l,k=>if NT.blt x.1 k=true then px l k+1 else 0
theorem px_le:∀ (l:List (ByteArray×Int×Int)) (k:ByteArray),px l k<=l.length
 | [],_=>Nat.le_refl _
 | x :: l,k=>by
   unfold px
   split
   ·have:=px_le l k;rw[List.length_cons];omega
   ·omega
theorem px_lt:∀ (l:List (ByteArray×Int×Int)) (k:ByteArray) (j:Nat) (hj:j<l.length),j<px l k->NT.blt l[j].1 k=true
 | [],k,j,hj,_=>by cases hj
 | x :: l,k,j,hj,h=>by
   by_cases e:NT.blt x.1 k=true
   ·have h2:px (x :: l) k=px l k+1:=by simp[px,e]
    cases j with
    | zero=>exact e
    | succ j=>
      simp only[List.getElem_cons_succ];exact px_lt l k j (by rw[List.length_cons] at hj;omega) (by omega)
   ·have:px (x :: l) k=0:=by simp[px,e]
    omega
theorem px_at:∀ (l:List (ByteArray×Int×Int)) (k:ByteArray) (h:px l k<l.length),NT.blt l[px l k].1 k=false
 | [],k,h=>by cases h
 | x :: l,k,h=>by
   by_cases e:NT.blt x.1 k=true
   ·have h2:px (x :: l) k=px l k+1:=by simp[px,e]
    rw[h2,List.length_cons] at h;simp only[h2,List.getElem_cons_succ];exact px_at l k (by omega)
   ·have h2:px (x :: l) k=0:=by simp[px,e]
    simp only[h2,List.getElem_cons_zero];simpa using e
def putL (l:List (ByteArray×Int×Int))(x:ByteArray×Int×Int):List (ByteArray×Int×Int):=l.take (px l x.1) ++ [x] ++ l.drop (px l x.1)
theorem putL_two:∀ (l:List (ByteArray×Int×Int)) (x:ByteArray×Int×Int),two (putL l x)=NT.ins x.1 x.2.1 (two l)
 | [],x=>rfl
 | y :: l,x=>by
   have ih:=putL_two l x
   by_cases e:NT.blt y.1 x.1=true
   ·have h2:px (y :: l) x.1=px l x.1+1:=by simp[px,e]
    have h3:putL (y :: l) x=y :: putL l x:=by unfold putL;rw[h2];simp
    rw[h3]
    show (y.1,y.2.1) :: two (putL l x)=NT.ins x.1 x.2.1 ((y.1,y.2.1) :: two l)
    rw[ih];simp[NT.ins,e]
   ·have h2:px (y :: l) x.1=0:=by simp[px,e]
    have h3:putL (y :: l) x=x :: y :: l:=by unfold putL;rw[h2];simp
    rw[h3]
    show (x.1,x.2.1) :: (y.1,y.2.1) :: two l=NT.ins x.1 x.2.1 ((y.1,y.2.1) :: two l)
    simp[NT.ins,e]
end RN
end Go.Proofs.YtfffibepcdlldaaGreat

namespace Go.Proofs.YtfffibepcdlldaaGreat
namespace RN
open NT (Dr Ds er nu findR)
theorem toD_cons (x:DD)(l:List DD)(m:Int):toD (x :: l) m=if x.ino=m then some ⟨x.up,two x.l⟩ else toD l m:=by
 by_cases e:x.ino=m <;> simp[toD,e]
theorem toD_off:∀ {l:List DD} {n:Int},n∉l.map (·.ino)->toD l n=none
 | [],n,_=>rfl
 | x :: l,n,h=>by
   rw[List.map_cons,List.mem_cons,not_or] at h;rw[toD_cons,if_neg (fun e=>h.1 e.symm),toD_off h.2]
theorem toD_mem:∀ {l:List DD} {x:DD},(l.map (·.ino)).Nodup->x∈l->toD l x.ino=some ⟨x.up,two x.l⟩
 | y :: l,x,hn,hx=>by
   rw[List.map_cons,List.nodup_cons] at hn;rw[toD_cons];rcases List.mem_cons.1 hx with rfl|hx
   ·rw[if_pos rfl]
   ·rw[if_neg (fun e=>hn.1 (by rw[e];exact List.mem_map.2 ⟨x,hx,rfl⟩)),toD_mem hn.2 hx]
theorem toD_set:∀ (l:List DD) (n:Int) (x':DD),x'.ino=n->ix l n<l.length->∀ m,toD (l.set (ix l n) x') m=if m=n then some ⟨x'.up,two x'.l⟩ else toD l m
 | [],n,x',_,h,m=>by cases h
 | x :: l,n,x',hx,h,m=>by
   by_cases e:x.ino=n
   ·have h1:ix (x :: l) n=0:=by simp[ix,e]
    rw[h1,List.set_cons_zero,toD_cons,toD_cons,hx,e]
    by_cases e2:m=n
    ·rw[if_pos e2.symm,if_pos e2]
    ·rw[if_neg (fun e3=>e2 e3.symm),if_neg e2,if_neg (fun e3=>e2 e3.symm)]
   ·have h1:ix (x :: l) n=ix l n+1:=by simp[ix,e]
    rw[h1,List.length_cons] at h;rw[h1,List.set_cons_succ,toD_cons,toD_cons,toD_set l n x' hx (by omega) m]
    by_cases e2:x.ino=m
    ·rw[if_pos e2,if_pos e2,if_neg (fun e3=>e (e2.trans e3))]
    ·rw[if_neg e2,if_neg e2]
theorem ino_set:∀ (l:List DD) (n:Int) (x':DD),x'.ino=n->(l.set (ix l n) x').map (·.ino)=l.map (·.ino)
 | [],n,x',_=>rfl
 | x :: l,n,x',hx=>by
   by_cases e:x.ino=n
   ·have h1:ix (x :: l) n=0:=by simp[ix,e]
    rw[h1,List.set_cons_zero,List.map_cons,List.map_cons,hx,e]
   ·have h1:ix (x :: l) n=ix l n+1:=by simp[ix,e]
    rw[h1,List.set_cons_succ,List.map_cons,List.map_cons,ino_set l n x' hx]
theorem ino_erase:∀ (l:List DD) (n:Int),((l.eraseIdx (ix l n)).map (·.ino)).Sublist (l.map (·.ino)):=fun l n=>(List.eraseIdx_sublist l _).map _
theorem toD_erase:∀ (l:List DD) (n:Int),(l.map (·.ino)).Nodup->∀ m,toD (l.eraseIdx (ix l n)) m=if m=n then none else toD l m
 | [],n,_,m=>by simp[toD]
 | x :: l,n,hn,m=>by
   rw[List.map_cons,List.nodup_cons] at hn
   by_cases e:x.ino=n
   ·have h1:ix (x :: l) n=0:=by simp[ix,e]
    rw[h1,List.eraseIdx_cons_zero,toD_cons,e]
    by_cases e2:m=n
    ·subst e2;rw[if_pos rfl,toD_off (by rw[<-e];exact hn.1)]
    ·rw[if_neg e2,if_neg (fun e3=>e2 e3.symm)]
   ·have h1:ix (x :: l) n=ix l n+1:=by simp[ix,e]
    rw[h1,List.eraseIdx_cons_succ,toD_cons,toD_cons,toD_erase l n hn.2 m]
    by_cases e2:x.ino=m
    ·rw[if_pos e2,if_pos e2,if_neg (fun e3=>e (e2.trans e3))]
    ·rw[if_neg e2,if_neg e2]
theorem toD_app:∀ (l:List DD) (x:DD),toD l x.ino=none->∀ m,toD (l ++ [x]) m=if m=x.ino then some ⟨x.up,two x.l⟩ else toD l m
 | [],x,_,m=>by
   rw[List.nil_append,toD_cons]
   by_cases e:m=x.ino
   ·rw[if_pos e.symm,if_pos e]
   ·rw[if_neg (fun e2=>e e2.symm),if_neg e]
 | y :: l,x,h,m=>by
   rw[toD_cons] at h
   by_cases e:y.ino=x.ino
   ·rw[if_pos e] at h;cases h
   ·rw[if_neg e] at h;rw[List.cons_append,toD_cons,toD_cons,toD_app l x h m]
    by_cases e2:y.ino=m
    ·rw[if_pos e2,if_pos e2,if_neg (fun e3=>e (e2.trans e3))]
    ·rw[if_neg e2,if_neg e2]
theorem two_drop (k:ByteArray):∀ (l:List (ByteArray×Int×Int)),two (dropL k l)=NT.del k (two l)
 | []=>rfl
 | x :: l=>by
   have ih:=two_drop k l;unfold dropL NT.del two at ih ⊢
   by_cases e:x.1=k <;> simp[e] at ih ⊢ <;> exact ih
theorem del_off {k:ByteArray}:∀ {l:List (ByteArray×Int)},NT.look k l=none->NT.del k l=l
 | [],_=>rfl
 | x :: l,h=>by
   unfold NT.look at h
   by_cases e:x.1=k
   ·rw[if_pos e] at h;cases h
   ·rw[if_neg e] at h;have ih:=del_off h;unfold NT.del at ih ⊢;rw[List.filter_cons_of_pos (by simp[e]),ih]
theorem put_mem (l:List (ByteArray×Int×Int))(x y:ByteArray×Int×Int):y∈putL l x↔y=x∨y∈l:=by
 have:y∈l↔y∈l.take (px l x.1)∨y∈l.drop (px l x.1):=by rw[<-List.mem_append,List.take_append_drop]
 unfold putL;rw[List.mem_append,List.mem_append,List.mem_singleton,this]
 constructor
 ·rintro ((h|h)|h)
  ·exact .inr (.inl h)
  ·exact .inl h
  ·exact .inr (.inr h)
 ·rintro (h|h|h)
  ·exact .inl (.inr h)
  ·exact .inl (.inl h)
  ·exact .inr h
theorem put_len (l:List (ByteArray×Int×Int))(x:ByteArray×Int×Int):(putL l x).length=l.length+1:=by
 unfold putL;have:=px_le l x.1;rw[List.length_append,List.length_append,List.length_take,List.length_drop,List.length_singleton];omega
structure RK (l:List DD)(D:Ds)(κ:Int->Int):Prop where
 eq:toD l=D
 nd:(l.map (·.ino)).Nodup
 kd:∀ x∈l,∀ y∈x.l,y.2.2=κ y.2.1
section
variable {l:List DD}{D:Ds}{κ κ':Int->Int}{n p a:Int}{d:Dr}{k:ByteArray}
theorem RK.at_ (h:RK l D κ)(hD:D n=some d):∃ hn:ix l n<l.length,l[ix l n].ino=n/\d.up=l[ix l n].up/\d.l=two l[ix l n].l:=by
 rw[<-h.eq] at hD;obtain⟨h1,-,h2,h3⟩:=dir_some hD;exact⟨h1,ix_at l n h1,h2,h3⟩
theorem RK.set (h:RK l D κ)(hD:D n=some d)(x':DD)(hx:x'.ino=n)(hk:∀ y∈x'.l,y.2.2=κ y.2.1):RK (l.set (ix l n) x') (NT.upd D n (some ⟨x'.up,two x'.l⟩)) κ:=by
 obtain⟨hn,-⟩:=h.at_ hD;refine⟨?_,by rw[ino_set l n x' hx];exact h.nd,fun z hz y hy=>?_⟩
 ·funext m
  rw[toD_set l n x' hx hn m,<-h.eq]
  rfl
 ·rcases List.mem_or_eq_of_mem_set hz with hz|rfl
  ·exact h.kd z hz y hy
  ·exact hk y hy
theorem RK.cut (h:RK l D κ)(hD:D n=some d)(hn:ix l n<l.length)(k:ByteArray):RK (l.set (ix l n) (setL l[ix l n] (dropL k l[ix l n].l))) (NT.cutD D n k) κ:=by
 obtain⟨hn2,h1,h2,h3⟩:=h.at_ hD;have:=h.set hD (setL l[ix l n] (dropL k l[ix l n].l)) h1 (fun y hy=>h.kd _ (List.getElem_mem hn) y (List.mem_filter.1 hy).1);have e:NT.upd D n (some ⟨(setL l[ix l n] (dropL k l[ix l n].l)).up,two (setL l[ix l n] (dropL k l[ix l n].l)).l⟩)=NT.cutD D n k:=by
  funext m
  unfold NT.upd NT.cutD setL;simp only
  by_cases e:m=n
  ·rw[if_pos e,if_pos e,hD,two_drop,<-h3,<-h2];rfl
  ·rw[if_neg e,if_neg e]
 rw[e] at this;exact this
theorem RK.put (h:RK l D κ)(hD:D n=some d)(hn:ix l n<l.length){kd:Int}(hl:NT.look k d.l=none)(hk:kd=κ a):RK (l.set (ix l n) (setL l[ix l n] (putL l[ix l n].l (k,a,kd)))) (NT.putD D n k a) κ:=by
 obtain⟨hn2,h1,h2,h3⟩:=h.at_ hD
 have:=h.set hD (setL l[ix l n] (putL l[ix l n].l (k,a,kd))) h1 (fun y hy=>by
  rcases (put_mem _ _ _).1 hy with rfl|hy
  ·exact hk
  ·exact h.kd _ (List.getElem_mem hn) y hy)
 have e:NT.upd D n (some ⟨(setL l[ix l n] (putL l[ix l n].l (k,a,kd))).up,two (setL l[ix l n] (putL l[ix l n].l (k,a,kd))).l⟩)=NT.putD D n k a:=by
  funext m
  unfold NT.upd NT.putD setL;simp only
  by_cases e:m=n
  ·rw[if_pos e,if_pos e,hD,putL_two,<-h3,<-h2]
   show _=some (Dr.mk d.up (NT.put k a d.l))
   unfold NT.put;rw[del_off hl]
  ·rw[if_neg e,if_neg e]
 rw[e] at this;exact this
theorem RK.up (h:RK l D κ)(hD:D n=some d)(hn:ix l n<l.length)(p:Int):RK (l.set (ix l n) ⟨l[ix l n].ino,p,l[ix l n].l⟩) (NT.upD D n p) κ:=by
 obtain⟨hn2,h1,h2,h3⟩:=h.at_ hD;have:=h.set hD ⟨l[ix l n].ino,p,l[ix l n].l⟩ h1 (fun y hy=>h.kd _ (List.getElem_mem hn) y hy);have e:NT.upd D n (some ⟨p,two l[ix l n].l⟩)=NT.upD D n p:=by
  funext m
  unfold NT.upd NT.upD
  by_cases e:m=n
  ·rw[if_pos e,if_pos e,hD,<-h3];rfl
  ·rw[if_neg e,if_neg e]
 rw[e] at this;exact this
theorem RK.new (h:RK l D κ)(hD:D n=none)(p:Int):RK (l ++ [⟨n,p,[]⟩]) (NT.upd D n (some ⟨p,[]⟩)) κ:=by
 refine⟨?_,?_,fun z hz y hy=>?_⟩
 ·funext m
  rw[toD_app l ⟨n,p,[]⟩ (by rw[h.eq];exact hD) m,h.eq]
  rfl
 ·rw[List.map_append,List.nodup_append];refine⟨h.nd,by simp,fun x hx y hy e=>?_⟩;have e2:y=n:=by simpa using hy
  obtain⟨z,hz,hz2⟩:=List.mem_map.1 hx;have h2:=toD_mem h.nd hz;rw[hz2,e,e2,h.eq,hD] at h2
  cases h2
 ·rcases List.mem_append.1 hz with hz|hz
  ·exact h.kd z hz y hy
  ·rw[List.mem_singleton.1 hz] at hy
   cases hy
theorem RK.gone (h:RK l D κ)(n:Int):RK (l.eraseIdx (ix l n)) (NT.upd D n none) κ:=by
 refine⟨?_,h.nd.sublist (ino_erase l n),fun z hz y hy=>h.kd z (List.mem_of_mem_eraseIdx hz) y hy⟩
 funext m
 rw[toD_erase l n h.nd m,h.eq]
 rfl
theorem RK.kap (h:RK l D κ)(he:∀ n d k j,D n=some d->(k,j)∈d.l->κ j=κ' j):RK l D κ':=by
 refine⟨h.eq,h.nd,fun x hx y hy=>?_⟩;rw[h.kd x hx y hy];have:=toD_mem h.nd hx;rw[h.eq] at this;exact he _ _ y.1 y.2.1 this (List.mem_map.2 ⟨y,hy,rfl⟩)
end
end RN
end Go.Proofs.YtfffibepcdlldaaGreat
