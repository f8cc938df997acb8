/- Slices of processes' numbers and of descriptors, read. -/
import Derived.Test.YtfffibepcdlldaaGreatZA38
import Derived.Test.YtfffibepcdlldaaGreatZA34
import Derived.Deep.Slices
set_option linter.unusedVariables false
set_option linter.unusedSimpArgs false
set_option maxRecDepth 100000
set_option maxHeartbeats 64000000
open Go.Proofs.Tryz

namespace Go.Proofs.YtfffibepcdlldaaGreat
open Go.ChangeShapes Go.WideShapes Go.ChangeAt Go.RowKit
namespace RD
open DC (Of Ls Ps Ou Sm lk fd1 fdcl)
open IN (Keeps cellkept lt_of_some)
open IS (I64)
def NumS (w:World)(ao:Option Addr)(n:Nat)(f:Nat->Int):Prop:=∀ i,i<n->∃ b o,ao=some ⟨b,o,none⟩/\w.cell? ⟨b,o+i,none⟩=some (.int .i64 (f i))
theorem fdcl_get:∀ (l:List (Nat×Of)) (i:Nat) (hi:i<l.length) (m:Nat),m<5->(fdcl l)[i*5+m]? = (fd1 l[i])[m]?
 | [],i,hi,_,_=>by simp at hi
 | x :: r,0,_,m,hm=>by
   simp only[fdcl,List.flatMap_cons];rw[List.getElem?_append_left (by simp[fd1];omega)];simp
 | x :: r,i+1,hi,m,hm=>by
   have ih:=fdcl_get r i (by simpa using hi) m hm;simp only[fdcl,List.flatMap_cons] at ih ⊢;rw[List.getElem?_append_right (by simp[fd1];omega)];rw[show (i+1)*5+m-(fd1 x).length=i*5+m by simp[fd1];omega,ih]
   rfl
theorem fdcl_len:∀ l:List (Nat×Of),(fdcl l).length=l.length*5
 | []=>rfl
 | x :: r=>by
   have:=fdcl_len r;simp only[fdcl,List.flatMap_cons,List.length_append,List.length_cons] at this ⊢;rw[this];simp[fd1]
   omega
theorem own_fd {w:World}{base:Nat}{v:Value}{l:List (Nat×Of)}(h:w.ownsRow base 63 5 v l.length (fdcl l)):∃ ao cap,v=.slice ao l.length cap/\∀ i (hi:i<l.length),∃ blk,ao=some ⟨blk,0,none⟩/\blk<w.heap.size/\∀ m u,(fd1 l[i])[m]? = some u->w.cell? ⟨blk,i*5+m,none⟩=some u:=by
 rcases h.2 with ⟨rfl,h0⟩|⟨g,cap,cur,rfl,hb,hg,h1,h2,h3,h4⟩
 ·exact⟨none,0,by rw[h0],fun i hi=>by omega⟩
 ·refine⟨_,cap,rfl,fun i hi=>⟨g,rfl,lt_of_some hg,fun m u hu=>?_⟩⟩;have hm:m<5:=by
   rcases Nat.lt_or_ge m 5 with hlt|hge
   ·exact hlt
   ·rw[List.getElem?_eq_none (by simp[fd1];omega)] at hu;cases hu
  have:=h.cells (g:=g) rfl (i*5+m) u (by rw[fdcl_get l i hi m hm];exact hu);rw[Addr.add_lit,Nat.zero_add] at this;exact this
def pidI (P:Ps)(i:Nat):Int:=((P[i]?).map (·.1)).getD 0
theorem below_drew (w:World):Below w.heap.size w w.drew:=⟨rfl,rfl,rfl,Nat.le_refl _,fun _ _=>rfl⟩
theorem NumS.keep {w w':World}{ao:Option Addr}{n:Nat}{f:Nat->Int}(h:NumS w ao n f)(hb:Below w.heap.size w w'):NumS w' ao n f:=fun i hi=>by
 obtain⟨b,o,h1,h2⟩:=h i hi;exact⟨b,o,h1,cellkept hb h2⟩
theorem pidv_get (qp:List PE){i:Nat}(hi:i<qp.length):(pidv qp)[i]? = some (.int .i64 (pidI (Pq qp) i)):=by
 unfold pidv pidI Pq;rw[List.getElem?_map,List.getElem?_map,List.getElem?_eq_getElem hi]
 rfl
theorem num_own {w:World}{base:Nat}{v:Value}{qp:List PE}(h:w.ownsRow base 3 1 v qp.length (pidv qp)):∃ ao cap,v=.slice ao qp.length cap/\NumS w ao qp.length (pidI (Pq qp)):=by
 rcases h.2 with ⟨rfl,h0⟩|⟨g,cap,cur,rfl,hb,hg,h1,h2,h3,h4⟩
 ·exact⟨none,0,by rw[h0],fun i hi=>by omega⟩
 ·refine⟨_,cap,rfl,fun i hi=>⟨g,0,rfl,?_⟩⟩;have:=h.cells (g:=g) rfl i _ (pidv_get qp hi);rw[Addr.add_lit] at this;exact this
theorem lc_num {w:World}{base:Nat}{v:Value}{P:Ps}(h:IS.LC base w v (DC.pids P))(hp:∀ x∈P,1<=x.1):∃ ao cap,v=.slice ao P.length cap/\NumS w ao P.length (pidI P):=by
 obtain⟨ao,cap,rfl,hh⟩:=h;have hl:(DC.pids P).length=P.length:=by unfold DC.pids;rw[List.length_map]
 refine⟨ao,cap,by rw[hl],fun i hi=>?_⟩;obtain⟨blk,off,h1,h2,h3,h4⟩:=hh i (by rw[hl];exact hi);refine⟨blk,off,h1,?_⟩;rw[h4];have:((DC.pids P)[i]'(by rw[hl];exact hi):Int)=pidI P i:=by
  unfold DC.pids pidI;rw[List.getElem_map,List.getElem?_eq_getElem hi];have:=hp _ (List.getElem_mem hi)
  show ((P[i].1.toNat:Nat):Int)=P[i].1
  omega
 rw[this]
theorem pidI_i64 {P:Ps}(hp:∀ x∈P,1<=x.1/\I64 x.1){i:Nat}(hi:i<P.length):I64 (pidI P i):=by
 unfold pidI;rw[List.getElem?_eq_getElem hi];exact (hp _ (List.getElem_mem hi)).2
end RD
end Go.Proofs.YtfffibepcdlldaaGreat
