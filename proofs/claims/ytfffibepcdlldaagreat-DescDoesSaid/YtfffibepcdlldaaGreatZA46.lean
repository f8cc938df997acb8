/- What the laws of layer 13 share that call both sides. -/
import Derived.Test.YtfffibepcdlldaaGreatZA08
import Derived.Test.YtfffibepcdlldaaGreatZA10
import Derived.Deep.Slices
import Derived.Test.YtfffibepcdlldaaGreatZA35
import Derived.Test.YtfffibepcdlldaaGreatZA45
set_option linter.unusedVariables false
set_option linter.unusedSimpArgs false
set_option maxRecDepth 100000
set_option maxHeartbeats 64000000
open Go.Proofs.Tryz

namespace Go.Proofs.YtfffibepcdlldaaGreat
open Go.ChangeShapes Go.WideShapes Go.ChangeAt Go.RowKit
namespace IN
theorem stat_neq (a b c d e f:Int)(w:World):(binOp .neq 65 (.agg #[.int .i64 a,.int .i64 b,.int .i64 c,.int .i64 d,.int .i64 e,.int .i64 f]) (.agg #[.int .i64 a,.int .i64 b,.int .i64 c,.int .i64 d,.int .i64 e,.int .i64 f])).run prog w=.ok (.bool false) w:=by
 simp[go_sem]
theorem stcl_get:∀ (l:List (Nat×Nd)) (i:Nat) (hi:i<l.length) (m:Nat),m<6->(stcl l)[i*6+m]? = (stl (l[i].1:Int) l[i].2)[m]?
 | [],i,hi,_,_=>by simp at hi
 | x :: r,0,_,m,hm=>by
   simp only[stcl,List.flatMap_cons];rw[List.getElem?_append_left (by simp[stl];omega)];simp
 | x :: r,i+1,hi,m,hm=>by
   have ih:=stcl_get r i (by simpa using hi) m hm;simp only[stcl,List.flatMap_cons] at ih ⊢;rw[List.getElem?_append_right (by simp[stl];omega)];rw[show (i+1)*6+m-(stl (x.1:Int) x.2).length=i*6+m by simp[stl];omega,ih]
   rfl
theorem own_at {w:World}{base:Nat}{v:Value}{l:List (Nat×Nd)}(h:w.ownsRow base 65 6 v l.length (stcl l)):∃ ao cap,v=.slice ao l.length cap/\∀ i (hi:i<l.length),∃ blk,ao=some ⟨blk,0,none⟩/\blk<w.heap.size/\∀ m u,(stl (l[i].1:Int) l[i].2)[m]? = some u->w.cell? ⟨blk,i*6+m,none⟩=some u:=by
 rcases h.2 with ⟨rfl,h0⟩|⟨g,cap,cur,rfl,hb,hg,h1,h2,h3,h4⟩
 ·have hl:l.length=0:=by have:=stcl_len l;rw[h0] at this;simp at this;omega
  skip
  exact⟨none,0,by rw[hl],fun i hi=>by omega⟩
 ·refine⟨_,cap,rfl,fun i hi=>⟨g,rfl,lt_of_some hg,fun m u hu=>?_⟩⟩;have hm:m<6:=by
   rcases Nat.lt_or_ge m 6 with hlt|hge
   ·exact hlt
   ·rw[List.getElem?_eq_none (by simp[stl];omega)] at hu;cases hu
  have:=h.cells (g:=g) rfl (i*6+m) u (by rw[stcl_get l i hi m hm];exact hu);rw[Addr.add_lit,Nat.zero_add] at this;exact this
theorem Same_yes (v1 v2:Value)(B1 B2:Nat)(L:List (Nat×Nd))(w:World)(hl:L.length<=100000)(h1:w.ownsRow B1 65 6 v1 L.length (stcl L))(h2:w.ownsRow B2 65 6 v2 L.length (stcl L)) :
 Calls prog 18 #[v1,v2] w fun e w'=>e=.returned (.bool true)/\Below w.heap.size w w':=by
 have hm1:L.length<=maxLen:=by unfold maxLen;omega
 obtain⟨x1,c1,rfl,H1⟩:=own_at h1;obtain⟨x2,c2,rfl,H2⟩:=own_at h2;have H1:=Wd H1;have H2:=Wd H2;obtain⟨N,hN⟩:∃ N,L.length=N:=⟨_,rfl⟩;rw[hN] at hl ⊢;replace hN:=Wd hN;have he:((N:Int) != (N:Int))=false:=by simp
 clear h1 h2 hm1;go_enter func18,ntmps18
 go_wp2
 go_loopw [5] (fun i wr=>∃ k:Nat,k<=N/\i=.int .i64 k/\Below w.heap.size w wr) (fun i _=>N-(intOf i).toNat)
 case atStart=>exact⟨0,Nat.zero_le _,rfl,Below.refl _ _⟩
 case round=>
  obtain⟨k,hk,rfl,bel⟩:=hrel
  by_cases hlt:k<N
  ·have hkl:k<L.length:=by rw[hN.out];exact hlt
   obtain⟨b1,rfl,hb1,g⟩:=H1.out k hkl;obtain⟨b2,rfl,hb2,g'⟩:=H2.out k hkl;obtain⟨⟨nj,dj⟩,hx⟩:∃ x,L[k]=x:=⟨_,rfl⟩;rw[hx] at g g';have kk:∀ {b m:Nat} {u:Value},b<w.heap.size->w.cell? ⟨b,m,none⟩=some u->wr.cell? ⟨b,m,none⟩=some u:=fun {b m u} hb hc=>by rw[bel.cell (p:=⟨b,m,none⟩) hb];exact hc
   have i0:=kk hb1 (g 0 _ rfl);have i1:=kk hb1 (g 1 _ rfl);have i2:=kk hb1 (g 2 _ rfl);have i3:=kk hb1 (g 3 _ rfl);have i4:=kk hb1 (g 4 _ rfl);have i5:=kk hb1 (g 5 _ rfl);have j0:=kk hb2 (g' 0 _ rfl);have j1:=kk hb2 (g' 1 _ rfl);have j2:=kk hb2 (g' 2 _ rfl);have j3:=kk hb2 (g' 3 _ rfl);have j4:=kk hb2 (g' 4 _ rfl);have j5:=kk hb2 (g' 5 _ rfl);rw[Nat.add_zero] at i0 j0;have hq:=stat_neq (nj:Int) dj.kind dj.links dj.opens dj.size (EM.cnt dj.l:Int);clear g g' kk hkl hx;go_wp2
   go_quiet (fail)
   go_wp2
   go_roundw
   case rel=>exact⟨k+1,by omega,by go_num,below_drewN bel _⟩
   case measure=>simp[intOf];omega
  ·obtain rfl:k=N:=by omega
   go_wp2
   go_ret
   exact⟨rfl,bel⟩
end IN
end Go.Proofs.YtfffibepcdlldaaGreat

namespace Go.Proofs.YtfffibepcdlldaaGreat
open Go.ChangeShapes Go.WideShapes Go.ChangeAt Go.RowKit Go.Maps
open Go.ChangeMaps (open_string shut_string)
open IN (cap7 Keeps cellkept)
open DC (Of Ls Ps Ou Sm)
open RD
theorem kind8 (k:Int):((((k.tmod 8)+8).tmod 8)=0∨(((k.tmod 8)+8).tmod 8)=1∨(((k.tmod 8)+8).tmod 8)=2∨(((k.tmod 8)+8).tmod 8)=3∨(((k.tmod 8)+8).tmod 8)=4∨(((k.tmod 8)+8).tmod 8)=5∨(((k.tmod 8)+8).tmod 8)=6∨(((k.tmod 8)+8).tmod 8)=7)/\-7<=k.tmod 8/\k.tmod 8<=7:=by
 have h1:=Int.tmod_lt_of_pos k (show (0:Int)<8 by decide);have h2 : -8<k.tmod 8:=by
  have:=Int.lt_tmod_of_pos k (show (0:Int)<8 by decide)
  omega
 obtain⟨t,ht⟩:∃ t,k.tmod 8=t:=⟨_,rfl⟩;rw[ht] at h1 h2 ⊢;have:t = -7∨t = -6∨t = -5∨t = -4∨t = -3∨t = -2∨t = -1∨t=0∨t=1∨t=2∨t=3∨t=4∨t=5∨t=6∨t=7:=by omega
 rcases this with rfl|rfl|rfl|rfl|rfl|rfl|rfl|rfl|rfl|rfl|rfl|rfl|rfl|rfl|rfl <;> decide
theorem row_vt {base n size b1:Nat}{t:TypeId}{v:Value}{xs:List Value}{w w':World}(h:w.ownsRow base t size v n xs)(h1:∀ k c s,¬ DC.VT k (.cells c t s))(hK:Keeps b1 DC.VT w w'):w'.ownsRow base t size v n xs:=by
 rcases h.2 with h0|⟨g,cap,cur,e1,e2,e3,e4⟩
 ·exact⟨h.1,.inl h0⟩
 ·exact⟨h.1,.inr ⟨g,cap,cur,e1,e2,hK.block _ _ e3 (h1 _ _ _),e4⟩⟩
theorem stat_vt (k:Nat)(cs:Array Value)(s:Nat×Nat):¬ DC.VT k (.cells cs 65 s):=by simp[DC.VT]
theorem ties_of {K:DC.Cn}{G:Cd}{B0:Nat}{a b c:Int}{f o:Nat}(hK:K.I=a.toNat/\K.L=c.toNat/\K.B=b.toNat/\K.files=f/\K.opens=o)(hG:G.I=a.toNat/\G.L=c.toNat/\G.B=b.toNat/\G.files=f/\G.opens=o)(hL:c.toNat<=32768)(hB:b.toNat<=16777216)(h1:B0<=K.base)(h2:B0<=G.base):Ties K G B0:=by
 obtain⟨g1,g2,g3,g4,g5⟩:=hG;obtain⟨k1,k2,k3,k4,k5⟩:=hK;exact⟨⟨by rw[k1,g1],by rw[k3,g3],by rw[k2,g2],by rw[k4,g4],by rw[k5,g5]⟩,by omega,by omega,h1,h2⟩
theorem I64.of {a:Int}(h1 : -9223372036854775808<=a)(h2:a<=9223372036854775807):IS.I64 a:=⟨h1,h2⟩
end Go.Proofs.YtfffibepcdlldaaGreat
