/- Sums of the parts of open files, plain: how near a sum of floats comes to how many there are. -/
import Derived.Test.YtfffibepcdlldaaGreatZA49
import Derived.Test.YtfffibepcdlldaaGreatZA34
import Derived.Test.YtfffibepcdlldaaGreatZA05
import Derived.Laws.Cover2
set_option linter.unusedVariables false
set_option linter.unusedSimpArgs false
set_option maxRecDepth 100000
set_option maxHeartbeats 64000000
open Go.Proofs.Tryz

namespace Go.Proofs.YtfffibepcdlldaaGreat
namespace FM
open Ieee
def N (v:Nat):Nat:=D.nearest false v (-1074)
def V (x:Nat):Nat:=match D.read x with | .number _ m p=>m*2 ^ (p+1074).toNat|_=>0
theorem V_of {x m e:Nat}(h:D.read x=.number false m (-1074+(e:Int))):V x=m*2 ^ e:=by
 unfold V;rw[h];simp only;rw[show (-1074+(e:Int)+1074).toNat=e by omega]
theorem nearest_eq (m1 m2:Nat)(p1 p2 base:Int)(h1:base<=p1)(h2:base<=p2)(h:m1*2 ^ (p1-base).toNat=m2*2 ^ (p2-base).toNat):D.nearest false m1 p1=D.nearest false m2 p2:=
 Nat.le_antisymm (nearest_mono m1 m2 p1 p2 base h1 h2 (Nat.le_of_eq h)) (nearest_mono m2 m1 p2 p1 base h2 h1 (Nat.le_of_eq h.symm))
theorem N_form (v:Nat):N v=min ((v.log2-52)*4503599627370496+rd v (v.log2-52)) 9218868437227405312:=by
 unfold N Format.nearest
 by_cases h0:v=0
 ·subst h0
  decide
 ·simp only[if_neg h0,lp,fb,inf,bin,Format.word,Bool.false_eq_true,if_false];have h2:max (-1074+(v.log2:Int)-((52:Nat):Int)) (-1074) = -1074+((v.log2-52:Nat):Int):=by omega
  rw[h2,cut_rd];rw[show (-1074-(-1074+((v.log2-52:Nat):Int))).toNat=0 by omega,show (-1074+((v.log2-52:Nat):Int) - -1074).toNat=v.log2-52 by omega];simp
theorem read_V {x:Nat}(hx:x<9218868437227405312):∃ m e:Nat,V x=m*2 ^ e/\x=e*4503599627370496+m/\m<9007199254740992/\(0<e->4503599627370496<=m)/\D.read x=.number false m (-1074+(e:Int)):=by
 obtain⟨m,e,h0,h1,h2,h3⟩:=read_pos x hx;exact⟨m,e,V_of h0,h1,h2,h3,h0⟩
theorem V_mono {x y:Nat}(hy:y<9218868437227405312)(h:x<=y):V x<=V y:=by
 obtain⟨m,e,h1,h2,h3,h4,-⟩:=read_V (x:=x) (by omega);obtain⟨m',e',k1,k2,k3,k4,-⟩:=read_V hy;rw[h1,k1];rcases Nat.lt_or_eq_of_le h with hlt|rfl
 ·have:=shift_lt h3 h4 k3 k4 (by omega);have e1:m*2 ^ e=m*2 ^ (e-min e e')*2 ^ min e e':=by rw[Nat.mul_assoc,<-Nat.pow_add];congr 2;omega
  have e2:m'*2 ^ e'=m'*2 ^ (e'-min e e')*2 ^ min e e':=by rw[Nat.mul_assoc,<-Nat.pow_add];congr 2;omega
  rw[e1,e2];exact Nat.mul_le_mul_right _ (Nat.le_of_lt this)
 ·rw[<-h1,<-k1];exact Nat.le_refl _
theorem rd_zero (n:Nat):rd n 0=n:=by
 unfold rd;simp[Nat.mod_one]
theorem V_lt {x y:Nat}(hx:x<9218868437227405312)(hy:y<9218868437227405312)(h:V x<V y):x<y:=by
 rcases Nat.lt_or_ge x y with h1|h1
 ·exact h1
 ·have:=V_mono hx h1;omega
theorem add_N {x y:Nat}(hx:x<9218868437227405312)(hy:y<9218868437227405312):D.add x y=some (N (V x+V y)):=by
 obtain⟨m,e,h1,-,-,-,h0⟩:=read_V hx;obtain⟨m',e',k1,-,-,-,k0⟩:=read_V hy;unfold Format.add;rw[h0,k0,h1,k1];simp only[Datum.sum,Option.map_some,signed_pos];rw[show min (-1074+(e:Int)) (-1074+(e':Int)) = -1074+((min e e':Nat):Int) by omega];rw[show (-1074+(e:Int)-(-1074+((min e e':Nat):Int))).toNat=e-min e e' by omega,show (-1074+(e':Int)-(-1074+((min e e':Nat):Int))).toNat=e'-min e e' by omega];rw[show ∀ a b:Nat,decide ((a:Int)+(b:Int)<0)=false from fun a b=>decide_eq_false (by omega)];simp only[Bool.and_false,ite_self,Format.write,Option.some.injEq];have hn:∀ a b:Nat,((a:Int)+(b:Int)).natAbs=a+b:=fun a b=>by omega
 rw[hn];unfold N;refine nearest_eq _ _ _ _ (-1074) (by omega) (Int.le_refl _) ?_;rw[show (-1074+((min e e':Nat):Int) - -1074).toNat=min e e' by omega,Int.sub_self,Int.toNat_zero,Nat.pow_zero,Nat.mul_one,Nat.add_mul];rw[Nat.mul_assoc,Nat.mul_assoc,<-Nat.pow_add,<-Nat.pow_add,show e-min e e'+min e e'=e by omega,show e'-min e e'+min e e'=e' by omega]
theorem ad_N {x y:Nat}(hx:x<9218868437227405312)(hy:y<9218868437227405312):ad x y=N (V x+V y):=by unfold ad;rw[add_N hx hy];rfl
def one:Nat:=4607182418800017408
def pw (k:Nat):Nat:=2 ^ k
theorem pw_add (a b:Nat):pw (a+b)=pw a*pw b:=Nat.pow_add 2 a b
end FM
namespace FM
open Ieee
theorem pw_pos (k:Nat):0<pw k:=Nat.two_pow_pos k
theorem pw_mono {a b:Nat}(h:a<=b):pw a<=pw b:=Nat.pow_le_pow_right (by decide) h
theorem V_word {d r:Nat}(hd:d<2000)(h1:r<=9007199254740992)(h2:0<d->4503599627370496<=r)(hlt:d*4503599627370496+r<9218868437227405312):V (d*4503599627370496+r)=r*pw d:=by
 obtain⟨m,e,k1,k2,k3,k4,-⟩:=read_V hlt;rw[k1]
 by_cases hr:r=9007199254740992
 ·subst hr;have he:e=d+1/\m=4503599627370496:=by
   rcases Nat.eq_zero_or_pos e with h0|h0
   ·subst h0;have:=k2
    omega
   ·have:=k4 h0;omega
  obtain⟨rfl,rfl⟩:=he
  show 4503599627370496*pw (d+1)=_
  rw[pw_add,show pw 1=2 from rfl]
  omega
 ·have he:e=d/\m=r:=by
   rcases Nat.eq_zero_or_pos e with h0|h0
   ·subst h0;rcases Nat.eq_zero_or_pos d with hd0|hd0
    ·omega
    ·have:=h2 hd0;omega
   ·have:=k4 h0;rcases Nat.eq_zero_or_pos d with hd0|hd0
    ·omega
    ·have:=h2 hd0;omega
  obtain⟨rfl,rfl⟩:=he
  rfl
theorem rd_ge (n d:Nat):n/2 ^ d<=rd n d:=by unfold rd;exact Nat.le_add_right _ _
theorem VN {v:Nat}(hv:v.log2<2000):V (N v)<=v+v/4503599627370496/\v<=V (N v)+v/4503599627370496/\N v<9218868437227405312:=by
 by_cases hs:v.log2<53
 ·have hd:v.log2-52=0:=by omega
  have hvl:v<9007199254740992:=by
   by_cases h0:v=0
   ·omega
   ·have:=(Nat.log2_lt h0 (k:=53)).1 hs;rw[e53] at this;exact this
  have hN:N v=v:=by
   rw[N_form,hd,rd_zero]
   omega
  rw[hN];have hV:V v=v:=by
   have h:=V_word (d:=0) (r:=v) (by omega) (by omega) (by omega) (by omega);rw[Nat.zero_mul,Nat.zero_add] at h;rw[h,show pw 0=1 from rfl,Nat.mul_one]
  rw[hV]
  omega
 ·have h0:v≠0:=by
   rintro rfl;exact hs (by decide)
  obtain⟨d,hd⟩:∃ d,v.log2=d+52:=⟨v.log2-52,by omega⟩;have hlo:pw d*4503599627370496<=v:=by
   have:=Nat.log2_self_le h0;rw[hd,Nat.pow_add,e52] at this;exact this
  have hhi:v<pw d*9007199254740992:=by
   have:=Nat.lt_log2_self (n:=v);rw[hd,show d+52+1=d+53 by omega,Nat.pow_add,e53] at this;exact this
  have hp:=pw_pos d;have q1:4503599627370496<=v/pw d:=(Nat.le_div_iff_mul_le hp).2 (by rw[Nat.mul_comm];exact hlo);have q2:v/pw d<9007199254740992:=Nat.div_lt_of_lt_mul hhi;have r1:v/pw d<=rd v d:=rd_ge v d;have r2:rd v d<=v/pw d+1:=rd_le v d;have hN:N v=d*4503599627370496+rd v d:=by
   rw[N_form,hd,show d+52-52=d by omega]
   omega
  have hlt:d*4503599627370496+rd v d<9218868437227405312:=by omega
  rw[hN,V_word (by omega) (by omega) (fun _=>by omega) hlt];have hq:pw d<=v/4503599627370496:=(Nat.le_div_iff_mul_le (by decide)).2 hlo;have e1:=Nat.div_add_mod v (pw d);have e2:=Nat.mod_lt v hp;have m1:rd v d*pw d<=(v/pw d+1)*pw d:=Nat.mul_le_mul_right _ r2;have m2:v/pw d*pw d<=rd v d*pw d:=Nat.mul_le_mul_right _ r1;rw[Nat.add_mul,Nat.one_mul] at m1;rw[Nat.mul_comm (pw d)] at e1;exact⟨by omega,by omega,hlt⟩
theorem log2_lt_of {v k:Nat}(h:v<pw k)(hk:0<k):v.log2<k:=by
 by_cases h0:v=0
 ·subst h0;rw[show Nat.log2 0=0 by decide];exact hk
 ·exact (Nat.log2_lt h0).2 h
end FM
end Go.Proofs.YtfffibepcdlldaaGreat

namespace Go.Proofs.YtfffibepcdlldaaGreat
open Go.ChangeShapes Go.WideShapes Go.ChangeAt Go.RowKit
namespace DC
open FM (V N pw pw_add pw_pos pw_mono VN log2_lt_of ad_N)
def cinf:Nat:=9218868437227405312
def TT (r:Int):Nat:=(floatBits .quo .f64 4607182418800017408 (floatOfInt .f64 r)).getD 0
def okT (r:Nat):Bool:=(floatBits .quo .f64 4607182418800017408 (floatOfInt .f64 (r:Int))).isSome && decide (TT r<cinf) && decide (V (TT r)*r<=pw 1074+pw 1030) && decide (pw 1074<=V (TT r)*r+pw 1030) && decide (V (TT r)<=pw 1074)
theorem tabT:(List.range 900).all (fun r=>okT (r+1))=true:=by decide +kernel
theorem TT_ok {r:Int}(h1:1<=r)(h2:r<=900):floatBits .quo .f64 4607182418800017408 (floatOfInt .f64 r)=some (TT r)/\TT r<cinf/\V (TT r)*r.toNat<=pw 1074+pw 1030/\pw 1074<=V (TT r)*r.toNat+pw 1030/\V (TT r)<=pw 1074:=by
 obtain⟨n,rfl⟩:∃ n:Nat,r=((n+1:Nat):Int):=⟨r.toNat-1,by omega⟩;have h:=List.all_eq_true.1 tabT n (List.mem_range.2 (by omega));unfold okT at h;simp only[Bool.and_eq_true,decide_eq_true_eq] at h;obtain⟨⟨⟨⟨a,b⟩,c⟩,d⟩,e⟩:=h;rw[Int.toNat_natCast];refine⟨?_,b,c,d,e⟩;obtain⟨x,hx⟩:=Option.isSome_iff_exists.1 a;unfold TT;rw[hx]
 rfl
def adf (s b:Nat):Nat:=ad s b
theorem adf_ok {s b:Nat}(hs:s<cinf)(hb:b<cinf):floatBits .add .f64 s b=some (adf s b):=by
 show FM.D.add s b=_
 rw[FM.add_N hs hb];unfold adf;rw[ad_N hs hb]
def svn (l:List Nat):Nat:=(l.map V).sum
theorem svn_cons (x:Nat)(l:List Nat):svn (x :: l)=V x+svn l:=rfl
theorem svn_app (l m:List Nat):svn (l ++ m)=svn l+svn m:=by
 unfold svn;rw[List.map_append,List.sum_append]
theorem fold_near (B δ:Nat)(hB:2*B<pw 1200)(hd:2*B<=δ*4503599627370496):∀ (l:List Nat) (s A k:Nat),(∀ x∈l,x<cinf)->s<cinf->V s<=A+k*δ->A<=V s+k*δ->A+svn l<=B->(k+l.length)*δ<=B ->
 l.foldl adf s<cinf/\V (l.foldl adf s)<=A+svn l+(k+l.length)*δ/\A+svn l<=V (l.foldl adf s)+(k+l.length)*δ
 | [],s,A,k,_,hs,h1,h2,_,_=>⟨hs,h1,h2⟩
 | x :: l,s,A,k,hx,hs,h1,h2,h3,h4=>by
   rw[svn_cons] at h3;rw[List.length_cons] at h4;have hxx:=hx x (by simp);have ekl:(k+(l.length+1))*δ=(k+1+l.length)*δ:=by congr 1;omega
   have ek1:(k+1)*δ=k*δ+δ:=by rw[Nat.add_mul,Nat.one_mul]
   have em:k*δ<=(k+1+l.length)*δ:=Nat.mul_le_mul_right _ (by omega);rw[ekl] at h4;have hv:V s+V x<=2*B:=by omega
   obtain⟨n1,n2,n3⟩:=VN (v:=V s+V x) (by have:=log2_lt_of (v:=V s+V x) (k:=1200) (by omega) (by decide);omega);have hq:(V s+V x)/4503599627370496<=δ:=by
    have h5:(V s+V x)/4503599627370496<=(δ*4503599627370496)/4503599627370496:=Nat.div_le_div_right (by omega);rwa[Nat.mul_div_cancel _ (by decide)] at h5
   have ha:adf s x=N (V s+V x):=ad_N hs hxx;obtain⟨r1,r2,r3⟩:=fold_near B δ hB hd l (adf s x) (A+V x) (k+1) (fun y hy=>hx y (by simp[hy])) (by rw[ha];exact n3) (by rw[ha];omega) (by rw[ha];omega) (by omega) h4;rw[List.foldl_cons,List.length_cons,svn_cons,ekl];exact⟨r1,by omega,by omega⟩
theorem svn_le:∀ {l:List Nat} {b:Nat},(∀ x∈l,V x<=b)->svn l<=l.length*b
 | [],_,_=>Nat.zero_le _
 | x :: l,b,h=>by
   have h1:=h x (by simp);have ih:=svn_le (l:=l) fun y hy=>h y (by simp[hy]);rw[svn_cons,List.length_cons,Nat.add_mul,Nat.one_mul]
   omega
theorem fold_ok {l:List Nat}(hx:∀ x∈l,x<cinf/\V x<=pw 1077)(hl:l.length<=1000):l.foldl adf 0<cinf/\V (l.foldl adf 0)<=svn l+pw 1050/\svn l<=V (l.foldl adf 0)+pw 1050:=by
 have hs:svn l<=pw 1087:=by
  have h1:=svn_le (l:=l) (b:=pw 1077) fun x h=>(hx x h).2;have h2:l.length*pw 1077<=1000*pw 1077:=Nat.mul_le_mul_right _ hl;have h3:pw 1087=1024*pw 1077:=by rw[show (1087:Nat)=10+1077 from rfl,pw_add,show pw 10=1024 from rfl]
  omega
 have hd:l.length*pw 1037<=pw 1047:=by
  have h2:l.length*pw 1037<=1000*pw 1037:=Nat.mul_le_mul_right _ hl;have h3:pw 1047=1024*pw 1037:=by rw[show (1047:Nat)=10+1037 from rfl,pw_add,show pw 10=1024 from rfl]
  omega
 have m1:pw 1047<=pw 1050:=pw_mono (by decide);have m2:pw 1047<=pw 1087:=pw_mono (by decide);have m3:pw 1200=pw 112*(2*pw 1087):=by rw[show (1200:Nat)=112+(1+1087) from rfl,pw_add,pw_add 1 1087,show pw 1=2 from rfl]
 have m4:2*pw 1087<=pw 1037*4503599627370496:=by
  rw[show (4503599627370496:Nat)=pw 52 from rfl,<-pw_add,show pw (1037+52)=pw (1+(1+1087)) from rfl,pw_add 1,pw_add 1,show pw 1=2 from rfl]
  omega
 obtain⟨a,b,c⟩:=fold_near (pw 1087) (pw 1037) (by
  rw[m3];have p1:=pw_pos 1087;have p2:2<=pw 112:=by decide
  have:=Nat.mul_le_mul_right (2*pw 1087) p2
  omega) m4 l 0 0 0 (fun x h=>(hx x h).1) (by decide) (by have:V 0=0:=by decide
                                                          omega) (Nat.zero_le _) (by rw[Nat.zero_add];exact hs) (by rw[Nat.zero_add];omega)
 rw[Nat.zero_add,Nat.zero_add] at b c;exact⟨a,by omega,by omega⟩
def gl (n:Int)(l:List (Nat×Of)):List Nat:=(l.filter fun y=>decide (y.2.ino=n)).map fun y=>TT y.2.refs
theorem gl_app (n:Int)(a b:List (Nat×Of)):gl n (a ++ b)=gl n a ++ gl n b:=by unfold gl;rw[List.filter_append,List.map_append]
def gp (n:Int)(O:Ou)(P:Ps):List Nat:=P.flatMap fun x=>gl n (fdsA O 0 x.2)
theorem gp_snoc (n:Int)(O:Ou)(P:Ps)(x:Int×Ls):gp n O (P ++ [x])=gp n O P ++ gl n (fdsA O 0 x.2):=by
 unfold gp;rw[List.flatMap_append];simp
def sumk (f:Nat->Nat):Nat->Nat
 | 0=>0
 | m+1=>sumk f m+f m
theorem sumk_add (f g:Nat->Nat):∀ m,sumk (fun k=>f k+g k) m=sumk f m+sumk g m
 | 0=>rfl
 | m+1=>by unfold sumk;rw[sumk_add f g m];omega
theorem sumk_zero {f:Nat->Nat}:∀ {m},(∀ k,k<m->f k=0)->sumk f m=0
 | 0,_=>rfl
 | m+1,h=>by unfold sumk;rw[sumk_zero fun k hk=>h k (by omega),h m (by omega)]
theorem sumk_congr {f g:Nat->Nat}:∀ {m},(∀ k,k<m->f k=g k)->sumk f m=sumk g m
 | 0,_=>rfl
 | m+1,h=>by unfold sumk;rw[sumk_congr fun k hk=>h k (by omega),h m (by omega)]
theorem sumk_one (k:Nat)(v:Nat):∀ {m},k<m->sumk (fun j=>(if k=j then 1 else 0)*v) m=v
 | 0,h=>by omega
 | m+1,h=>by
   unfold sumk
   by_cases e:k=m
   ·subst e;rw[sumk_zero fun j hj=>by rw[if_neg (by omega),Nat.zero_mul],if_pos rfl]
    omega
   ·rw[sumk_one k v (by omega),if_neg e]
    omega
def wk (n:Int)(O:Ou)(k:Nat):Nat:=match O k with
 | none=>0
 | some o=>if o.ino=n then V (TT o.refs) else 0
theorem sv_fds (n:Int)(O:Ou)(m:Nat)(hb:∀ k,O k≠none->k<m):∀ (L:Ls) (b:Nat),svn (gl n (fdsA O b L))=sumk (fun k=>cntL k L*wk n O k) m
 | [],b=>by
   show 0=_
   rw[sumk_zero];intro k _
   show cntL k []*_=0
   unfold cntL;simp
 | none :: L,b=>by
   have ih:=sv_fds n O m hb L (b+1)
   show svn (gl n (fdsA O (b+1) L))=_
   rw[ih];refine sumk_congr fun k _=>?_
   show cntL k L*wk n O k=cntL k (none :: L)*wk n O k
   rw[cntL_cons,if_neg (by simp),Nat.add_zero]
 | some k :: L,b=>by
   have ih:=sv_fds n O m hb L (b+1);have hc:sumk (fun j=>cntL j (some k :: L)*wk n O j) m=sumk (fun j=>cntL j L*wk n O j) m+sumk (fun j=>(if k=j then 1 else 0)*wk n O k) m:=by
    rw[<-sumk_add];refine sumk_congr fun j _=>?_
    show cntL j (some k :: L)*wk n O j=cntL j L*wk n O j+(if k=j then 1 else 0)*wk n O k
    rw[cntL_cons,Nat.add_mul]
    by_cases e:k=j
    ·subst e;rw[if_pos rfl,if_pos rfl]
    ·rw[if_neg e,if_neg (by simpa using e),Nat.zero_mul,Nat.zero_mul]
   rw[hc,<-ih]
   cases e:O k with
   | none=>
     have hw:wk n O k=0:=by unfold wk;rw[e]
     rw[hw,sumk_zero fun j _=>Nat.mul_zero _]
     show svn (gl n (match O k with|none=>fdsA O (b+1) L|some o=>(b,o) :: fdsA O (b+1) L))=_
     rw[e,Nat.add_zero]
     rfl
   | some o=>
     rw[sumk_one k _ (hb k (by rw[e];simp))]
     show svn (gl n (match O k with|none=>fdsA O (b+1) L|some o=>(b,o) :: fdsA O (b+1) L))=_
     rw[e]
     show svn (gl n ([(b,o)] ++ fdsA O (b+1) L))=_
     rw[gl_app,svn_app];have:svn (gl n [(b,o)])=wk n O k:=by
      unfold wk gl;rw[e]
      by_cases hi:o.ino=n
      ·simp[hi,svn]
      ·simp[hi,svn]
     omega
theorem sv_gp (n:Int)(O:Ou)(m:Nat)(hb:∀ k,O k≠none->k<m):∀ (P:Ps),svn (gp n O P)=sumk (fun k=>cntP k P*wk n O k) m
 | []=>(sumk_zero fun k _=>Nat.zero_mul _).symm
 | x :: P=>by
   have ih:=sv_gp n O m hb P
   show svn (gl n (fdsA O 0 x.2) ++ gp n O P)=_
   rw[svn_app,sv_fds n O m hb,ih,<-sumk_add];refine sumk_congr fun k _=>?_
   show cntL k x.2*wk n O k+cntP k P*wk n O k=(cntL k x.2+cntP k P)*wk n O k
   rw[Nat.add_mul]
section
variable {files opens:Nat}{S:Int->Option IN.Nd}{P:Ps}{O:Ou}
theorem refs_few (h:DI files opens S P O [])(hf:P.length*files<=900){k:Nat}{o:Of}(ho:O k=some o):1<=o.refs/\o.refs<=900/\o.refs.toNat=cntP k P:=by
 have h1:=h.refs k o ho;have h2:=cntP_le k (P:=P) h.len;have e:cntL k []=0:=rfl;rw[e] at h1
 omega
theorem near_opn (h:DI files opens S P O [])(hf:P.length*files<=900)(n:Int):svn (gp n O P)<=opn O n opens*pw 1074+opens*pw 1030/\opn O n opens*pw 1074<=svn (gp n O P)+opens*pw 1030:=by
 rw[sv_gp n O opens h.bound P];generalize opens=m at *;have key:∀ k,cntP k P*wk n O k<=isOf n (O k)*pw 1074+pw 1030/\isOf n (O k)*pw 1074<=cntP k P*wk n O k+pw 1030:=fun k=>by
  cases e:O k with
  | none=>
    have:wk n O k=0:=by unfold wk;rw[e]
    rw[this]
    show _<=0*pw 1074+_/\0*pw 1074<=_
    omega
  | some o=>
    obtain⟨r1,r2,r3⟩:=refs_few h hf e;obtain⟨-,-,t1,t2,-⟩:=TT_ok r1 r2;unfold wk;rw[e]
    show cntP k P*(if o.ino=n then V (TT o.refs) else 0)<=(if o.ino=n then 1 else 0)*pw 1074+pw 1030/\(if o.ino=n then 1 else 0)*pw 1074<=cntP k P*(if o.ino=n then V (TT o.refs) else 0)+pw 1030
    rw[<-r3]
    by_cases hi:o.ino=n
    ·rw[if_pos hi,if_pos hi,Nat.one_mul,Nat.mul_comm];exact⟨t1,t2⟩
    ·rw[if_neg hi,if_neg hi]
     omega
 clear h
 induction m with
 | zero=>
   show 0<=0*_+0*_/\0*_<=0+0*_
   omega
 | succ m ih=>
   obtain⟨k1,k2⟩:=key m
   show sumk _ m+cntP m P*wk n O m<=(opn O n m+isOf n (O m))*pw 1074+(m+1)*pw 1030/\(opn O n m+isOf n (O m))*pw 1074<=sumk _ m+cntP m P*wk n O m+(m+1)*pw 1030
   rw[Nat.add_mul,Nat.add_mul,Nat.one_mul]
   omega
theorem gl_small (h:DI files opens S P O [])(hf:P.length*files<=900)(n:Int):∀ (L:Ls) (b:Nat),∀ x∈gl n (fdsA O b L),x<cinf/\V x<=pw 1074
 | [],b,x,hx=>by cases hx
 | none :: L,b,x,hx=>gl_small h hf n L (b+1) x hx
 | some k :: L,b,x,hx=>by
   have hx':x∈gl n (match O k with|none=>fdsA O (b+1) L|some o=>(b,o) :: fdsA O (b+1) L):=hx
   cases e:O k with
   | none=>rw[e] at hx';exact gl_small h hf n L (b+1) x hx'
   | some o=>
     rw[e] at hx';have hx2:x∈gl n ([(b,o)] ++ fdsA O (b+1) L):=hx';rw[gl_app,List.mem_append] at hx2;rcases hx2 with h1|h1
     ·obtain⟨r1,r2,-⟩:=refs_few h hf e;obtain⟨-,t0,-,-,t3⟩:=TT_ok r1 r2;unfold gl at h1;obtain⟨y,hy,rfl⟩:=List.mem_map.1 h1;obtain⟨hy1,-⟩:=List.mem_filter.1 hy;rw[List.mem_singleton] at hy1;subst hy1;exact⟨t0,t3⟩
     ·exact gl_small h hf n L (b+1) x h1
theorem gp_small (h:DI files opens S P O [])(hf:P.length*files<=900)(n:Int)(Q:Ps):∀ x∈gp n O Q,x<cinf/\V x<=pw 1074:=fun x hx=>by
 obtain⟨y,-,hy⟩:=List.mem_flatMap.1 hx;exact gl_small h hf n y.2 0 x hy
theorem gl_len (n:Int)(l:List (Nat×Of)):(gl n l).length<=l.length:=by
 unfold gl;rw[List.length_map];exact List.length_filter_le _ _
theorem gp_len {f:Nat}(n:Int)(O:Ou):∀ {Q:Ps},(∀ x∈Q,x.2.length=f)->(gp n O Q).length<=Q.length*f
 | [],_=>Nat.zero_le _
 | x :: Q,h=>by
   have ih:=gp_len (f:=f) n O (Q:=Q) fun y hy=>h y (List.mem_cons_of_mem _ hy);have h1:=gl_len n (fdsA O 0 x.2);have h2:=fds_len O x.2 0;have h3:=h x List.mem_cons_self
   show (gl n (fdsA O 0 x.2) ++ gp n O Q).length<=_
   rw[List.length_append,List.length_cons,Nat.add_mul,Nat.one_mul]
   omega
theorem opn_all (O:Ou):∀ (m:Nat) (ns:List Int),ns.Nodup->(ns.map fun n=>opn O n m).sum<=m
 | 0,ns,_=>by
   have:∀ l:List Int,(l.map fun n=>opn O n 0).sum=0:=fun l=>by
    induction l with
    | nil=>rfl
    | cons x l ih=>rw[List.map_cons,List.sum_cons,ih];rfl
   rw[this];exact Nat.le_refl _
 | m+1,ns,h=>by
   have ih:=opn_all O m ns h;have hs:∀ l:List Int,(l.map fun n=>opn O n (m+1)).sum=(l.map fun n=>opn O n m).sum+(l.map fun n=>isOf n (O m)).sum:=fun l=>by
    induction l with
    | nil=>rfl
    | cons x l ih=>
      simp only[List.map_cons,List.sum_cons];rw[ih]
      show opn O x m+isOf x (O m)+_=_
      omega
   have h1:∀ l:List Int,l.Nodup->(l.map fun n=>isOf n (O m)).sum<=1:=fun l=>by
    induction l with
    | nil=>intro _;exact Nat.zero_le _
    | cons x l ih=>
      intro hn;obtain⟨h1,h2⟩:=List.nodup_cons.1 hn;rw[List.map_cons,List.sum_cons];have:=ih h2
      cases e:O m with
      | none=>
        rw[e] at this
        show 0+_<=1
        omega
      | some o=>
        rw[e] at this
        show (if o.ino=x then 1 else 0)+_<=1
        by_cases hx:o.ino=x
        ·rw[if_pos hx];have hz:∀ l:List Int,x∉l->(l.map fun n=>isOf n (some o)).sum=0:=fun l=>by
          induction l with
          | nil=>intro _;rfl
          | cons y l ih=>
            intro hm;rw[List.map_cons,List.sum_cons,ih fun h=>hm (List.mem_cons_of_mem _ h)]
            show (if o.ino=y then 1 else 0)+0=0
            rw[if_neg fun e=>hm (by rw[<-hx,e];exact List.mem_cons_self)]
         rw[hz l h1];exact Nat.le_refl _
        ·rw[if_neg hx]
         omega
   have:=h1 ns h;rw[hs]
   omega
end
theorem gp_app (n:Int)(O:Ou)(a b:Ps):gp n O (a ++ b)=gp n O a ++ gp n O b:=List.flatMap_append
theorem gp_parts (n:Int)(O:Ou)(P:Ps){k:Nat}(hk:k<P.length)(j:Nat):gp n O P=(gp n O (P.take k) ++ gl n ((fdsA O 0 P[k].2).take j)) ++ (gl n ((fdsA O 0 P[k].2).drop j) ++ gp n O (P.drop (k+1))):=by
 have e1:P=P.take k ++ ([P[k]] ++ P.drop (k+1)):=by
  rw[List.singleton_append,<-List.drop_eq_getElem_cons hk,List.take_append_drop]
 have e2:gp n O [P[k]]=gl n (fdsA O 0 P[k].2):=by
  unfold gp;simp
 have e3:gl n (fdsA O 0 P[k].2)=gl n ((fdsA O 0 P[k].2).take j) ++ gl n ((fdsA O 0 P[k].2).drop j):=by
  rw[<-gl_app,List.take_append_drop]
 have h:gp n O P=gp n O (P.take k) ++ (gp n O [P[k]] ++ gp n O (P.drop (k+1))):=by
  rw[<-gp_app,<-gp_app,<-e1]
 rw[h,e2,e3];simp only[List.append_assoc]
theorem fds_mem {O:Ou}:∀ {L:Ls} {b:Nat} {y:Nat×Of},y∈fdsA O b L->∃ k,O k=some y.2
 | [],_,_,h=>by cases h
 | none :: L,b,y,h=>fds_mem (L:=L) (b:=b+1) h
 | some k :: L,b,y,h=>by
   have h':y∈(match O k with|none=>fdsA O (b+1) L|some o=>(b,o) :: fdsA O (b+1) L):=h
   cases e:O k with
   | none=>rw[e] at h';exact fds_mem h'
   | some o=>
     rw[e] at h';rcases List.mem_cons.1 h' with rfl|h'
     ·exact⟨k,e⟩
     ·exact fds_mem h'
theorem gl_step (n:Int)(F:List (Nat×Of)){j:Nat}(hj:j<F.length):(F[j].2.ino=n->gl n (F.take (j+1))=gl n (F.take j) ++ [TT F[j].2.refs])/\(F[j].2.ino≠n->gl n (F.take (j+1))=gl n (F.take j)):=by
 have e:F.take (j+1)=F.take j ++ [F[j]]:=(List.take_append_getElem hj).symm;rw[e,gl_app];refine⟨fun h=>?_,fun h=>?_⟩
 ·unfold gl;simp[h]
 ·unfold gl;simp[h]
theorem lt_key13 (a b:Nat)(ha:a<cinf){c:Int}(hc:FM.key b=c)(hb:b<18446744073709551616)(nb:FM.isNan b=false):(FloatKind.f64.format.order a b == some .lt)=decide ((a:Int)<c):=by
 have hi:cinf=9218868437227405312:=rfl;have:=FM.lt_key a b (by omega) hb (by unfold FM.isNan;exact decide_eq_false (by omega)) nb;rw[FM.key_pos (b:=a) (by omega),hc] at this;exact this
theorem gt_key13 (a b:Nat)(ha:a<cinf){c:Int}(hc:FM.key b=c)(hb:b<18446744073709551616)(nb:FM.isNan b=false):(FloatKind.f64.format.order a b == some .gt)=decide (c<(a:Int)):=by
 have hi:cinf=9218868437227405312:=rfl;have:=FM.gt_key a b (by omega) hb (by unfold FM.isNan;exact decide_eq_false (by omega)) nb;rw[FM.key_pos (b:=a) (by omega),hc] at this;exact this
def loC (o:Nat):Nat:=(floatBits .sub .f64 (floatOfInt .f64 (o:Int)) 4562254508917369340).getD 0
def hiC (o:Nat):Nat:=(floatBits .add .f64 (floatOfInt .f64 (o:Int)) 4562254508917369340).getD 0
def okC13 (o:Nat):Bool:=(floatBits .sub .f64 (floatOfInt .f64 (o:Int)) 4562254508917369340).isSome && (floatBits .add .f64 (floatOfInt .f64 (o:Int)) 4562254508917369340).isSome && decide (loC o<18446744073709551616) && decide (hiC o<cinf) && !FM.isNan (loC o) && (decide (FM.key (loC o)<0) || (decide (loC o<cinf) && decide (V (loC o)+pw 1060<=o*pw 1074))) && decide (o*pw 1074+pw 1060<=V (hiC o))
theorem tabC:(List.range 7).all okC13=true:=by decide +kernel
theorem cmp13 {o s:Nat}(ho:o<=6)(hs:s<cinf)(h1:V s<=o*pw 1074+pw 1055)(h2:o*pw 1074<=V s+pw 1055):floatBits .sub .f64 (floatOfInt .f64 (o:Int)) 4562254508917369340=some (loC o)/\floatBits .add .f64 (floatOfInt .f64 (o:Int)) 4562254508917369340=some (hiC o)/\(FloatKind.f64.format.order s (loC o) == some .lt)=false/\(FloatKind.f64.format.order s (hiC o) == some .gt)=false:=by
 have h:=List.all_eq_true.1 tabC o (List.mem_range.2 (by omega));unfold okC13 at h;simp only[Bool.and_eq_true,Bool.or_eq_true,decide_eq_true_eq,Bool.not_eq_true'] at h;obtain⟨⟨⟨⟨⟨⟨a,b⟩,c⟩,d⟩,e⟩,f⟩,g⟩:=h;have hi:cinf=9218868437227405312:=rfl;have hp:pw 1055<pw 1060:=by
  have:pw 1060=32*pw 1055:=by rw[show (1060:Nat)=5+1055 from rfl,pw_add,show pw 5=32 from rfl]
  have:=pw_pos 1055
  omega
 refine⟨?_,?_,?_,?_⟩
 ·obtain⟨x,hx⟩:=Option.isSome_iff_exists.1 a;unfold loC;rw[hx];rfl
 ·obtain⟨x,hx⟩:=Option.isSome_iff_exists.1 b;unfold hiC;rw[hx];rfl
 ·rw[lt_key13 s (loC o) hs rfl c e];refine decide_eq_false fun hlt=>?_;rcases f with f|⟨f1,f2⟩
  ·omega
  ·rw[FM.key_pos (by omega)] at hlt;have:=FM.V_mono (x:=s) (y:=loC o) f1 (by omega)
   omega
 ·have nb:FM.isNan (hiC o)=false:=by unfold FM.isNan;exact decide_eq_false (by omega)
  rw[gt_key13 s (hiC o) hs rfl (by omega) nb];refine decide_eq_false fun hlt=>?_;rw[FM.key_pos (by omega)] at hlt;have:=FM.V_mono (x:=hiC o) (y:=s) hs (by omega)
  omega
def halfC:Nat:=(floatBits .add .f64 (floatOfInt .f64 6) 4602678819172646912).getD 0
theorem half13:floatBits .add .f64 (floatOfInt .f64 6) 4602678819172646912=some halfC/\halfC<cinf/\6*pw 1074+pw 1060<=V halfC:=by decide +kernel
theorem less13 {s:Nat}(hs:s<cinf)(h1:V s<=6*pw 1074+pw 1059):(FloatKind.f64.format.order s halfC == some .lt)=true:=by
 obtain⟨-,h2,h3⟩:=half13;have hi:cinf=9218868437227405312:=rfl;have nb:FM.isNan halfC=false:=by unfold FM.isNan;exact decide_eq_false (by omega)
 have hp:pw 1059<pw 1060:=by
  have:pw 1060=2*pw 1059:=by rw[show (1060:Nat)=1+1059 from rfl,pw_add,show pw 1=2 from rfl]
  have:=pw_pos 1059
  omega
 rw[lt_key13 s halfC hs (FM.key_pos (by omega)) (by omega) nb];refine decide_eq_true ?_;have:=FM.V_lt hs h2 (by omega)
 omega
theorem sum13 {S:Int->Option IN.Nd}{P:Ps}{O:Ou}(h:DI 4 6 S P O [])(hf:P.length<=220)(n:Int):(gp n O P).foldl adf 0<cinf/\V ((gp n O P).foldl adf 0)<=opn O n 6*pw 1074+pw 1055/\opn O n 6*pw 1074<=V ((gp n O P).foldl adf 0)+pw 1055:=by
 have hl:=gp_len n O (f:=4) h.len;obtain⟨a,b,c⟩:=fold_ok (l:=gp n O P) (fun x hx=>⟨(gp_small h (by omega) n P x hx).1,Nat.le_trans (gp_small h (by omega) n P x hx).2 (pw_mono (by decide))⟩) (by omega);obtain⟨d,e⟩:=near_opn h (by omega) n;have p1:pw 1055=32*pw 1050:=by rw[show (1055:Nat)=5+1050 from rfl,pw_add,show pw 5=32 from rfl]
 have p2:pw 1050=1048576*pw 1030:=by rw[show (1050:Nat)=20+1030 from rfl,pw_add,show pw 20=1048576 from rfl]
 exact⟨a,by omega,by omega⟩
theorem part13 {S:Int->Option IN.Nd}{P:Ps}{O:Ou}(h:DI 4 6 S P O [])(hf:P.length<=220)(n:Int)(l:List Nat)(hl:∃ r,gp n O P=l ++ r):l.foldl adf 0<cinf:=by
 obtain⟨r,hr⟩:=hl;have hlen:=gp_len n O (f:=4) h.len;have hmem:∀ x∈l,x∈gp n O P:=fun x hx=>by rw[hr];exact List.mem_append_left _ hx
 have:l.length<=(gp n O P).length:=by rw[hr,List.length_append];omega
 exact (fold_ok (l:=l) (fun x hx=>⟨(gp_small h (by omega) n P x (hmem x hx)).1,Nat.le_trans (gp_small h (by omega) n P x (hmem x hx)).2 (pw_mono (by decide))⟩) (by omega)).1
def s13 (P:Ps)(O:Ou)(l:List (Nat×IN.Nd)):List Nat:=l.map fun x=>(gp (x.1:Int) O P).foldl adf 0
theorem all13 {S:Int->Option IN.Nd}{P:Ps}{O:Ou}(h:DI 4 6 S P O [])(hf:P.length<=220)(k:Nat):(s13 P O ((IN.lst S 8).take k)).foldl adf 0<cinf/\V ((s13 P O ((IN.lst S 8).take k)).foldl adf 0)<=6*pw 1074+pw 1059:=by
 have hlen:((IN.lst S 8).take k).length<=8:=by
  have:=IN.lst_len S 8;rw[List.length_take]
  omega
 have hnd:((IN.lst S 8).take k).Pairwise fun a b=>a.1<b.1:=(IN.lst_rise S 8).sublist (List.take_sublist _ _);generalize (IN.lst S 8).take k=l at *;have hle:∀ n,opn O n 6<=6:=fun n=>opn_le O n 6;have p1:pw 1074=524288*pw 1055:=by rw[show (1074:Nat)=19+1055 from rfl,pw_add,show pw 19=524288 from rfl]
 have p2:pw 1077=8*pw 1074:=by rw[show (1077:Nat)=3+1074 from rfl,pw_add,show pw 3=8 from rfl]
 have p3:pw 1059=16*pw 1055:=by rw[show (1059:Nat)=4+1055 from rfl,pw_add,show pw 4=16 from rfl]
 have p4:pw 1055=32*pw 1050:=by rw[show (1055:Nat)=5+1050 from rfl,pw_add,show pw 5=32 from rfl]
 obtain⟨a,b,-⟩:=fold_ok (l:=s13 P O l) (fun x hx=>by
  obtain⟨y,-,rfl⟩:=List.mem_map.1 hx;obtain⟨q1,q2,-⟩:=sum13 h hf (y.1:Int);have:=hle (y.1:Int);have hm:opn O (y.1:Int) 6*pw 1074<=6*pw 1074:=Nat.mul_le_mul_right _ this
  exact⟨q1,by omega⟩) (by unfold s13;rw[List.length_map];omega)
 have hsv:∀ m:List (Nat×IN.Nd),svn (s13 P O m)<=(m.map fun x=>opn O (x.1:Int) 6).sum*pw 1074+m.length*pw 1055:=fun m=>by
  induction m with
  | nil=>exact Nat.zero_le _
  | cons y m ih=>
    obtain⟨-,q2,-⟩:=sum13 h hf (y.1:Int)
    show V ((gp (y.1:Int) O P).foldl adf 0)+svn (s13 P O m)<=_
    rw[List.map_cons,List.sum_cons,List.length_cons,Nat.add_mul,Nat.add_mul,Nat.one_mul]
    omega
 have hno:((l.map fun x=>(x.1:Int))).Nodup:=by
  rw[List.Nodup,List.pairwise_map];exact hnd.imp fun {a b} h=>by omega
 have hall:=opn_all O 6 _ hno;rw[List.map_map] at hall;have h1:=hsv l;have h2:(l.map fun x=>opn O (x.1:Int) 6).sum*pw 1074<=6*pw 1074:=Nat.mul_le_mul_right _ hall;have h3:l.length*pw 1055<=8*pw 1055:=Nat.mul_le_mul_right _ hlen;exact⟨a,by omega⟩
end DC
end Go.Proofs.YtfffibepcdlldaaGreat
