/- What the laws of layer 13 share: calls that came in. -/
import Derived.Test.YtfffibepcdlldaaGreatZA34
import Derived.Deep.Slices
set_option linter.unusedVariables false
set_option linter.unusedSimpArgs false
set_option maxRecDepth 100000
set_option maxHeartbeats 64000000
open Go.Proofs.Tryz

namespace Go.Proofs.YtfffibepcdlldaaGreat
open Go.ChangeShapes Go.WideShapes Go.ChangeAt Go.RowKit Go.Maps
open Go.ChangeMaps (open_string shut_string)
abbrev OpT13:=Int×Int×Int×ByteArray×Int×Int
def OS13 (w:World)(a:Option Addr)(len cap:Nat)(l:List OpT13):Prop:=
 len<=maxLen/\l.length=len/\∀ j (hj:j<l.length),∃ blk off,a=some ⟨blk,off,none⟩/\blk<w.heap.size/\w.cell? ⟨blk,off+j*6,none⟩=some (.int .i64 l[j].1)/\w.cell? ⟨blk,off+j*6+1,none⟩=some (.int .i64 l[j].2.1)/\w.cell? ⟨blk,off+j*6+2,none⟩=some (.int .i64 l[j].2.2.1)/\w.cell? ⟨blk,off+j*6+3,none⟩=some (.string l[j].2.2.2.1)/\w.cell? ⟨blk,off+j*6+4,none⟩=some (.int .i64 l[j].2.2.2.2.1)/\w.cell? ⟨blk,off+j*6+5,none⟩=some (.int .i64 l[j].2.2.2.2.2)/\-9223372036854775808<=l[j].1/\l[j].1<=9223372036854775807/\-9223372036854775808<=l[j].2.1/\l[j].2.1<=9223372036854775807/\-9223372036854775808<=l[j].2.2.1/\l[j].2.2.1<=9223372036854775807/\l[j].2.2.2.1.size<=maxLen/\-9223372036854775808<=l[j].2.2.2.2.1/\l[j].2.2.2.2.1<=9223372036854775807/\-9223372036854775808<=l[j].2.2.2.2.2/\l[j].2.2.2.2.2<=9223372036854775807
theorem open_ops13 {H:Type} {enc:TypeId×Value->H} {W:World} {r:Reach} {b0:Nat} {v:Value} {d:DataW H} {p:List MemPlace} (hv:Value.okWide prog W r b0 22 v)
 (h:DataW.Trod enc prog W 0 (fun _=>true) true 22 v d p) :
 ∃ (ao:Option Addr) (n cap:Nat) (l:List OpT13),v=.slice ao n cap/\OS13 W ao n cap l:=by
 obtain⟨a,len,cap,rfl⟩:=okWide_slice underlying22 hv;obtain⟨fuel,hf⟩:=h;rcases Deep.open_slice underlying22 hf with ⟨e1,-⟩|⟨x,len',cap',m,n,D,Pl,e1,hb,hl,hm,hmm,-,hx⟩
 ·simp[Value.cells] at e1;obtain⟨rfl,rfl,rfl⟩:=e1;exact⟨none,0,0,[],rfl,Nat.zero_le _,rfl,fun j hj=>by simp at hj⟩
 ·simp[Value.cells] at e1;obtain⟨rfl,rfl,rfl⟩:=e1;have hlm:len<=m:=by rw[hmm];split <;> omega
  have each:∀ i,i<len->∃ q:OpT13,W.cell? (x.add (i*6))=some (.int .i64 q.1)/\W.cell? (x.add (i*6+1))=some (.int .i64 q.2.1)/\W.cell? (x.add (i*6+2))=some (.int .i64 q.2.2.1)/\W.cell? (x.add (i*6+3))=some (.string q.2.2.2.1)/\W.cell? (x.add (i*6+4))=some (.int .i64 q.2.2.2.2.1)/\W.cell? (x.add (i*6+5))=some (.int .i64 q.2.2.2.2.2)/\-9223372036854775808<=q.1/\q.1<=9223372036854775807/\-9223372036854775808<=q.2.1/\q.2.1<=9223372036854775807/\-9223372036854775808<=q.2.2.1/\q.2.2.1<=9223372036854775807/\q.2.2.2.1.size<=maxLen/\-9223372036854775808<=q.2.2.2.2.1/\q.2.2.2.2.1<=9223372036854775807/\-9223372036854775808<=q.2.2.2.2.2/\q.2.2.2.2.2<=9223372036854775807:=by
   intro i hi;obtain⟨cs',h1,h2⟩:=hx i (by omega);rw[show prog.cellsOf 45=6 from by kernel_rfl] at h1;obtain⟨_,hlen,hcell⟩:=World.cells?_some h1;obtain⟨xs,k,hk,hxy,_,hxl,hff⟩:=DataW.trod_struct underlying45 h2
   match xs,hxl,cs',hlen with
   | [y0,y1,y2,y3,y4,y5],_,[v0,v1,v2,v3,v4,v5],_=>
     have g0:=hff 0 _ rfl;have g1:=hff 1 _ rfl;have g2:=hff 2 _ rfl;have g3:=hff 3 _ rfl;have g4:=hff 4 _ rfl;have g5:=hff 5 _ rfl;have t0:prog.cellsOf 3=1:=by kernel_rfl
     have t1:prog.cellsOf 9=1:=by kernel_rfl
     have t2:prog.cellsOf 2=1:=by kernel_rfl
     simp[t0,t1,t2] at g0 g1 g2 g3 g4 g5;have e0:=hcell 0 (by omega);have e1:=hcell 1 (by omega);have e2:=hcell 2 (by omega);have e3:=hcell 3 (by omega);have e4:=hcell 4 (by omega);have e5:=hcell 5 (by omega);rw[Deep.add_add] at e0 e1 e2 e3 e4 e5;obtain⟨z0,q0,-,b0⟩:=DataW.trod_int underlying3 g0;have b0':=bounds_i64 b0;obtain⟨z1,q1,-,b1⟩:=DataW.trod_int underlying3 g1;have b1':=bounds_i64 b1;obtain⟨z2,q2,-,b2⟩:=DataW.trod_int underlying3 g2;have b2':=bounds_i64 b2;obtain⟨z3,q3,-,b3⟩:=DataW.trod_string underlying9 g3;obtain⟨z4,q4,-,b4⟩:=DataW.trod_int underlying2 g4;have b4':=bounds_i64 b4;obtain⟨z5,q5,-,b5⟩:=DataW.trod_int underlying3 g5;have b5':=bounds_i64 b5;simp at q0 q1 q2 q3 q4 q5;subst q0 q1 q2 q3 q4 q5;exact⟨(z0,z1,z2,z3,z4,z5),by simpa using e0,by simpa using e1,by simpa using e2,by simpa using e3,by simpa using e4,by simpa using e5,b0'.1,b0'.2,b1'.1,b1'.2,b2'.1,b2'.2,b3,b4'.1,b4'.2,b5'.1,b5'.2⟩
  have key:∀ k,k<=len->∃ l:List OpT13,l.length=k/\∀ j (hj:j<l.length),W.cell? (x.add (j*6))=some (.int .i64 l[j].1)/\W.cell? (x.add (j*6+1))=some (.int .i64 l[j].2.1)/\W.cell? (x.add (j*6+2))=some (.int .i64 l[j].2.2.1)/\W.cell? (x.add (j*6+3))=some (.string l[j].2.2.2.1)/\W.cell? (x.add (j*6+4))=some (.int .i64 l[j].2.2.2.2.1)/\W.cell? (x.add (j*6+5))=some (.int .i64 l[j].2.2.2.2.2)/\-9223372036854775808<=l[j].1/\l[j].1<=9223372036854775807/\-9223372036854775808<=l[j].2.1/\l[j].2.1<=9223372036854775807/\-9223372036854775808<=l[j].2.2.1/\l[j].2.2.1<=9223372036854775807/\l[j].2.2.2.1.size<=maxLen/\-9223372036854775808<=l[j].2.2.2.2.1/\l[j].2.2.2.2.1<=9223372036854775807/\-9223372036854775808<=l[j].2.2.2.2.2/\l[j].2.2.2.2.2<=9223372036854775807:=by
   intro k
   induction k with
   | zero=>exact fun _=>⟨[],rfl,fun j hj=>by simp at hj⟩
   | succ k ih=>
     intro hk;obtain⟨l,h1,h2⟩:=ih (by omega);obtain⟨q,hq⟩:=each k (by omega);refine⟨l ++ [q],by simp[h1],fun j hj=>?_⟩
     by_cases hjl:j<l.length
     ·rw[List.getElem_append_left hjl];exact h2 j hjl
     ·have:j=k:=by simp at hj;omega
      subst this;rw[List.getElem_append_right (by omega)];simpa[h1] using hq
  obtain⟨l,h1,h2⟩:=key len (Nat.le_refl _);refine⟨some x,len,cap,l,rfl,Nat.le_trans hl hm,h1,fun j hj=>?_⟩;obtain⟨c0,c1,c2,c3,c4,c5,hbn⟩:=h2 j hj;obtain⟨b,off,spot⟩:=x;have h0:=(h2 0 (by omega)).1;have hs:spot=none:=by simpa[Addr.add] using World.cell?_spot h0
  subst hs;rw[Addr.add_lit] at c0 c1 c2 c3 c4 c5;exact⟨b,off,rfl,cell_lt c0,c0,by rw[<-Nat.add_assoc] at c1;exact c1,by rw[<-Nat.add_assoc] at c2;exact c2,by rw[<-Nat.add_assoc] at c3;exact c3,by rw[<-Nat.add_assoc] at c4;exact c4,by rw[<-Nat.add_assoc] at c5;exact c5,hbn⟩
theorem open_op13 {H:Type} {enc:TypeId×Value->H} {W:World} {r:Reach} {b0:Nat} {v:Value} {d:DataW H} {p:List MemPlace} (hv:Value.okWide prog W r b0 45 v)
 (h:DataW.Trod enc prog W 0 (fun _=>true) true 45 v d p) :
 ∃ (kd pid fd:Int) (s:ByteArray) (n ito:Int),v=.agg #[.int .i64 kd,.int .i64 pid,.int .i64 fd,.string s,.int .i64 n,.int .i64 ito]/\IS.I64 kd/\IS.I64 pid/\IS.I64 fd/\s.size<=maxLen/\IS.I64 n/\IS.I64 ito:=by
 obtain⟨cs,rfl,hsz⟩:=okWide_struct underlying45 hv;have hC:prog.cellsOf 45=6:=by kernel_rfl
 rw[hC] at hsz;obtain⟨l,rfl⟩:∃ l:List Value,cs=l.toArray:=⟨cs.toList,by simp⟩;have hlen:l.length=6:=by simpa using hsz
 obtain⟨fuel,hf⟩:=h;obtain⟨xs,k,hk,hxy,_,hxl,hff⟩:=DataW.trod_struct underlying45 hf
 match xs,hxl,l,hlen with
 | [y0,y1,y2,y3,y4,y5],_,[v0,v1,v2,v3,v4,v5],_=>
   have t0:prog.cellsOf 3=1:=by kernel_rfl
   have t1:prog.cellsOf 9=1:=by kernel_rfl
   have t2:prog.cellsOf 2=1:=by kernel_rfl
   have g0:=hff 0 _ rfl;have g1:=hff 1 _ rfl;have g2:=hff 2 _ rfl;have g3:=hff 3 _ rfl;have g4:=hff 4 _ rfl;have g5:=hff 5 _ rfl;simp[t0,t1,t2,Value.cells] at g0 g1 g2 g3 g4 g5;obtain⟨z0,q0,-,b0⟩:=DataW.trod_int underlying3 g0;obtain⟨z1,q1,-,b1⟩:=DataW.trod_int underlying3 g1;obtain⟨z2,q2,-,b2⟩:=DataW.trod_int underlying3 g2;obtain⟨z3,q3,-,b3⟩:=DataW.trod_string underlying9 g3;obtain⟨z4,q4,-,b4⟩:=DataW.trod_int underlying2 g4;obtain⟨z5,q5,-,b5⟩:=DataW.trod_int underlying3 g5;simp at q0 q1 q2 q3 q4 q5;subst q0 q1 q2 q3 q4 q5;exact⟨z0,z1,z2,z3,z4,z5,rfl,bounds_i64 b0,bounds_i64 b1,bounds_i64 b2,b3,bounds_i64 b4,bounds_i64 b5⟩
end Go.Proofs.YtfffibepcdlldaaGreat
