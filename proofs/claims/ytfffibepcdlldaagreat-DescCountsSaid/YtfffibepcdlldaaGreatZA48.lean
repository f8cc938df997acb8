/- A part. -/
import Derived.Laws.FloatBits
import Derived.Test.YtfffibepcdlldaaGreatZA01
import Derived.WalkKit
import Derived.ProofKit
import Derived.OpenShut
import Derived.Outline
import Derived.WalkLawsBesides
import Derived.Deep.QuietTactic
import Derived.BigQuiet
import Derived.IntWalk
import Derived.Deep.RegionWith
import Derived.Laws.BitsAllLaws
import Derived.Laws.Externs
import Derived.Test.YtfffibepcdlldaaGreatRows
set_option linter.unusedVariables false
set_option linter.unusedSimpArgs false
set_option maxRecDepth 100000
set_option maxHeartbeats 64000000
open Go.Proofs.Tryz

namespace Go.Proofs.YtfffibepcdlldaaGreat
namespace FM
open Ieee
abbrev D:Format:=Ieee.double
theorem sw:D.signWeight=9223372036854775808:=by decide
theorem bin:D.binade=4503599627370496:=by decide
theorem inf:D.infRung=9218868437227405312:=by decide
theorem lp:D.leastPlace = -1074:=by decide
theorem fb:D.fractionBits=52:=rfl
def key (b:Nat):Int:=if b<9223372036854775808 then (b:Int) else -((b%9223372036854775808:Nat):Int)
def isNan (b:Nat):Bool:=decide (9218868437227405312<b%9223372036854775808)
theorem read_num (b:Nat)(hb:b<18446744073709551616)(h:b%9223372036854775808<9218868437227405312) :
 ∃ m e:Nat,D.read b=.number (decide (9223372036854775808<=b)) m (-1074+(e:Int))/\b%9223372036854775808=e*4503599627370496+m/\m<9007199254740992/\(0<e->4503599627370496<=m):=by
 have hs:(b/9223372036854775808%2 == 1)=decide (9223372036854775808<=b):=by
  by_cases hh:9223372036854775808<=b
  ·have:b/9223372036854775808%2=1:=by omega
   simp[hh,this]
  ·have:b/9223372036854775808%2=0:=by omega
   simp[hh,this]
 unfold Format.read;simp only[sw,bin,inf,lp,hs]
 split
 ·next h1=>exact⟨b%9223372036854775808,0,by simp,by omega,by omega,by omega⟩
 ·next h1=>
  exact⟨4503599627370496+b%9223372036854775808%4503599627370496,b%9223372036854775808/4503599627370496-1,rfl,by omega,by omega,by omega⟩
theorem read_inf (b:Nat)(hb:b<18446744073709551616)(h:b%9223372036854775808=9218868437227405312):D.read b=.infinity (decide (9223372036854775808<=b)):=by
 have hs:(b/9223372036854775808%2 == 1)=decide (9223372036854775808<=b):=by
  by_cases hh:9223372036854775808<=b
  ·have:b/9223372036854775808%2=1:=by omega
   simp[hh,this]
  ·have:b/9223372036854775808%2=0:=by omega
   simp[hh,this]
 unfold Format.read;simp only[sw,bin,inf,lp,hs,h];simp
theorem shift_lt {m1 e1 m2 e2:Nat} (h1:m1<9007199254740992) (h1':0<e1->4503599627370496<=m1) (h2:m2<9007199254740992) (h2':0<e2->4503599627370496<=m2)
 (h:e1*4503599627370496+m1<e2*4503599627370496+m2):m1*2 ^ (e1-min e1 e2)<m2*2 ^ (e2-min e1 e2):=by
 rcases Nat.lt_trichotomy e1 e2 with he|he|he
 ·rw[Nat.min_eq_left (Nat.le_of_lt he),Nat.sub_self,Nat.pow_zero,Nat.mul_one];obtain⟨d,rfl⟩:∃ d,e2=e1+1+d:=⟨e2-e1-1,by omega⟩;have hm:=h2' (by omega);have hd:0<2 ^ d:=Nat.two_pow_pos d;rw[show e1+1+d-e1=d+1 by omega,Nat.pow_succ];have:4503599627370496*(1*2)<=m2*(2 ^ d*2):=Nat.mul_le_mul hm (by omega)
  omega
 ·subst he;rw[Nat.min_self,Nat.sub_self,Nat.pow_zero,Nat.mul_one,Nat.mul_one]
  omega
 ·exfalso
  have:=h1' (by omega)
  omega
theorem signed_of (neg:Bool)(m k:Nat):signed neg m k=if neg then -((m*2 ^ k:Nat):Int) else ((m*2 ^ k:Nat):Int):=by
 unfold signed;rw[Nat.shiftLeft_eq]
theorem int_compare_eq (a b c d:Int)(h1:a<b↔c<d)(h2:b<a↔d<c):compare a b=compare c d:=by
 simp only[compare,compareOfLessAndEq]
 by_cases ha:a<b
 ·rw[if_pos ha,if_pos (h1.1 ha)]
 ·rw[if_neg ha,if_neg (fun h=>ha (h1.2 h))]
  by_cases hb:b<a
  ·have:=h2.1 hb;rw[if_neg (by omega),if_neg (by omega)]
  ·have h3:¬ c<d:=fun h=>ha (h1.2 h);have h4:¬ d<c:=fun h=>hb (h2.2 h);rw[if_pos (by omega),if_pos (by omega)]
theorem key_pos {b:Nat}(h:b<9223372036854775808):key b=b:=by simp[key,h]
theorem key_neg {b:Nat}(h:¬ b<9223372036854775808):key b = -((b%9223372036854775808:Nat):Int):=by simp only[key,if_neg h]
theorem order_key (a b:Nat)(ha:a<18446744073709551616)(hb:b<18446744073709551616)(na:isNan a=false)(nb:isNan b=false):D.order a b=some (compare (key a) (key b)):=by
 have na':a%9223372036854775808<=9218868437227405312:=by simpa[isNan] using na
 have nb':b%9223372036854775808<=9218868437227405312:=by simpa[isNan] using nb
 unfold Format.order
 by_cases ia:a%9223372036854775808=9218868437227405312
 ·rw[read_inf a ha ia]
  by_cases ib:b%9223372036854775808=9218868437227405312
  ·rw[read_inf b hb ib]
   by_cases sa:9223372036854775808<=a <;> by_cases sb:9223372036854775808<=b
   ·have e1:=key_neg (b:=a) (by omega);have e2:=key_neg (b:=b) (by omega);rw[ia] at e1;rw[ib] at e2;rw[e1,e2];simp[sa,sb,Datum.order]
   ·have e1:=key_neg (b:=a) (by omega);have e2:=key_pos (b:=b) (by omega);rw[ia] at e1;rw[show b=9218868437227405312 by omega] at e2 ⊢;rw[e1,e2];simp[sa,Datum.order];decide
   ·have e1:=key_pos (b:=a) (by omega);have e2:=key_neg (b:=b) (by omega);rw[ib] at e2;rw[show a=9218868437227405312 by omega] at e1 ⊢;rw[e1,e2];simp[sb,Datum.order];decide
   ·have e1:=key_pos (b:=a) (by omega);have e2:=key_pos (b:=b) (by omega);rw[e1,e2];simp[Datum.order,show a=9218868437227405312 by omega,show b=9218868437227405312 by omega]
  ·obtain⟨m,e,hr,h1,h2,h3⟩:=read_num b hb (by omega);rw[hr]
   by_cases sa:9223372036854775808<=a
   ·have e1:=key_neg (b:=a) (by omega);have hlt:key a<key b:=by
     rw[e1,ia];unfold key;split <;> omega
    simp[Datum.order,sa,compare,compareOfLessAndEq,hlt]
   ·have e1:=key_pos (b:=a) (by omega);have hlt:key b<key a:=by
     rw[e1];unfold key;split <;> omega
    have h4:¬ key a<key b:=by omega
    have h5:¬ key a=key b:=by omega
    simp[Datum.order,sa,compare,compareOfLessAndEq,h4,h5]
 ·obtain⟨m,e,hr,h1,h2,h3⟩:=read_num a ha (by omega);rw[hr]
  by_cases ib:b%9223372036854775808=9218868437227405312
  ·rw[read_inf b hb ib]
   by_cases sb:9223372036854775808<=b
   ·have e1:=key_neg (b:=b) (by omega);have hlt:key b<key a:=by
     rw[e1,ib];unfold key;split <;> omega
    have h4:¬ key a<key b:=by omega
    have h5:¬ key a=key b:=by omega
    simp[Datum.order,sb,compare,compareOfLessAndEq,h4,h5]
   ·have e1:=key_pos (b:=b) (by omega);have hlt:key a<key b:=by
     rw[e1];unfold key;split <;> omega
    simp[Datum.order,sb,compare,compareOfLessAndEq,hlt]
  ·obtain⟨m',e',hr',h1',h2',h3'⟩:=read_num b hb (by omega);rw[hr'];have k1:(-1074+(e:Int)-min (-1074+(e:Int)) (-1074+(e':Int))).toNat=e-min e e':=by omega
   have k2:(-1074+(e':Int)-min (-1074+(e:Int)) (-1074+(e':Int))).toNat=e'-min e e':=by omega
   simp only[Datum.order,signed_of,k1,k2];have l1:a%9223372036854775808<b%9223372036854775808->m*2 ^ (e-min e e')<m'*2 ^ (e'-min e e'):=fun h=>shift_lt h2 h3 h2' h3' (by omega);have l2:b%9223372036854775808<a%9223372036854775808->m'*2 ^ (e'-min e e')<m*2 ^ (e-min e e'):=fun h=>by
    have:=shift_lt h2' h3' h2 h3 (by omega);rwa[Nat.min_comm] at this
   have l3:a%9223372036854775808=b%9223372036854775808->m*2 ^ (e-min e e')=m'*2 ^ (e'-min e e'):=fun h=>by
    have:e=e':=by
     rcases Nat.lt_trichotomy e e' with he|he|he
     ·have:=h3' (by omega);omega
     ·exact he
     ·have:=h3 (by omega);omega
    subst this;have:m=m':=by omega
    rw[this]
   have z1:a%9223372036854775808=0->m*2 ^ (e-min e e')=0:=fun h=>by
    have:m=0:=by omega
    rw[this,Nat.zero_mul]
   have z2:b%9223372036854775808=0->m'*2 ^ (e'-min e e')=0:=fun h=>by
    have:m'=0:=by omega
    rw[this,Nat.zero_mul]
   have p1:0<a%9223372036854775808->0<m*2 ^ (e-min e e'):=fun h=>Nat.mul_pos (by
    rcases Nat.eq_zero_or_pos e with h0|h0
    ·subst h0;omega
    ·have:=h3 h0;omega) (Nat.two_pow_pos _)
   have p2:0<b%9223372036854775808->0<m'*2 ^ (e'-min e e'):=fun h=>Nat.mul_pos (by
    rcases Nat.eq_zero_or_pos e' with h0|h0
    ·subst h0;omega
    ·have:=h3' h0;omega) (Nat.two_pow_pos _)
   generalize m*2 ^ (e-min e e')=M at *;generalize m'*2 ^ (e'-min e e')=M' at *;clear h1 h2 h3 h1' h2' h3' hr hr' k1 k2;have t1:=Nat.lt_trichotomy (a%9223372036854775808) (b%9223372036854775808)
   congr 1
   apply int_compare_eq
   ·by_cases sa:9223372036854775808<=a <;> by_cases sb:9223372036854775808<=b <;> simp only[sa,sb,decide_true,decide_false,if_true,key] <;> (try rw[if_neg (by omega:¬ a<9223372036854775808)]) <;> (try rw[if_pos (by omega:a<9223372036854775808)]) <;> (try rw[if_neg (by omega:¬ b<9223372036854775808)]) <;> (try rw[if_pos (by omega:b<9223372036854775808)]) <;> simp <;> omega
   ·by_cases sa:9223372036854775808<=a <;> by_cases sb:9223372036854775808<=b <;> simp only[sa,sb,decide_true,decide_false,if_true,key] <;> (try rw[if_neg (by omega:¬ a<9223372036854775808)]) <;> (try rw[if_pos (by omega:a<9223372036854775808)]) <;> (try rw[if_neg (by omega:¬ b<9223372036854775808)]) <;> (try rw[if_pos (by omega:b<9223372036854775808)]) <;> simp <;> omega
theorem eq_key (a b:Nat)(ha:a<18446744073709551616)(hb:b<18446744073709551616)(na:isNan a=false)(nb:isNan b=false):(D.order a b == some .eq)=decide (key a=key b):=by
 rw[order_key a b ha hb na nb];simp only[compare,compareOfLessAndEq];rcases Int.lt_trichotomy (key a) (key b) with h|h|h
 ·simp[h,show ¬ key a=key b by omega]
 ·simp[h]
 ·simp[show ¬ key a<key b by omega,show ¬ key a=key b by omega]
theorem lt_key (a b:Nat)(ha:a<18446744073709551616)(hb:b<18446744073709551616)(na:isNan a=false)(nb:isNan b=false):(D.order a b == some .lt)=decide (key a<key b):=by
 rw[order_key a b ha hb na nb];simp only[compare,compareOfLessAndEq];rcases Int.lt_trichotomy (key a) (key b) with h|h|h
 ·simp[h]
 ·simp[h]
 ·simp[show ¬ key a<key b by omega,show ¬ key a=key b by omega]
theorem gt_key (a b:Nat)(ha:a<18446744073709551616)(hb:b<18446744073709551616)(na:isNan a=false)(nb:isNan b=false):(D.order a b == some .gt)=decide (key b<key a):=by
 rw[order_key a b ha hb na nb];simp only[compare,compareOfLessAndEq];rcases Int.lt_trichotomy (key a) (key b) with h|h|h
 ·simp[h,show ¬ key b<key a by omega]
 ·simp[h]
 ·simp[show ¬ key a<key b by omega,show ¬ key a=key b by omega,h]
def clsR (r:Int):Nat:=
 if r < -9218868437227405312 then 1 else if r < -1 then 2 else if r = -1 then 3 else if r=0 then 4 else if r<9218868437227405312 then 5 else if r=9218868437227405312 then 6 else 7
def rd (n d:Nat):Nat:=n/2 ^ d+(decide (2 ^ d<2*(n%2 ^ d)) || (decide (2 ^ d=2*(n%2 ^ d)) && decide (n/2 ^ d%2=1))).toNat
theorem lt_log2 (n:Nat):n<2 ^ (n.log2+1):=Nat.lt_log2_self
theorem cut_rd (neg:Bool)(n d:Nat):Toward.even.cut neg n d=rd n d:=by
 unfold Toward.cut rd
 by_cases h:d<=n.log2+2
 ·rw[Nat.min_eq_left h,Nat.one_shiftLeft]
  rfl
 ·rw[Nat.min_eq_right (by omega),Nat.one_shiftLeft];have h1:=lt_log2 n;have h2:2*n<2 ^ (n.log2+2):=by rw[Nat.pow_succ];omega
  have h3:2 ^ (n.log2+2)<=2 ^ d:=Nat.pow_le_pow_right (by omega) (by omega);have a1:n/2 ^ (n.log2+2)=0:=Nat.div_eq_of_lt (by omega);have a2:n%2 ^ (n.log2+2)=n:=Nat.mod_eq_of_lt (by omega);have a3:n/2 ^ d=0:=Nat.div_eq_of_lt (by omega);have a4:n%2 ^ d=n:=Nat.mod_eq_of_lt (by omega);simp only[a1,a2,a3,a4];rw[decide_eq_false (by omega),decide_eq_false (by omega)];simp
theorem rd_le (n d:Nat):rd n d<=n/2 ^ d+1:=by
 unfold rd;have:∀ b:Bool,b.toNat<=1:=by intro b;cases b <;> decide
 have:=this (decide (2 ^ d<2*(n%2 ^ d)) || (decide (2 ^ d=2*(n%2 ^ d)) && decide (n/2 ^ d%2=1)))
 omega
theorem rd_mono (n1 d1 n2 d2:Nat)(h:n1*2 ^ d2<=n2*2 ^ d1):rd n1 d1<=rd n2 d2:=by
 have g1:=rd_le n1 d1;have hA:=Nat.two_pow_pos d1;have hB:=Nat.two_pow_pos d2;have e1:=Nat.div_add_mod n1 (2 ^ d1);have e2:=Nat.div_add_mod n2 (2 ^ d2);have r1:=Nat.mod_lt n1 hA;have r2:=Nat.mod_lt n2 hB;unfold rd at *;generalize 2 ^ d1=A at *;generalize 2 ^ d2=B at *;generalize n1/A=q1 at *;generalize n2/B=q2 at *;generalize n1%A=s1 at *;generalize n2%B=s2 at *;subst e1 e2;have hm:A*q1*B+s1*B<=B*q2*A+s2*A:=by rw[<-Nat.add_mul,<-Nat.add_mul];exact h
 rw[show A*q1*B=q1*(A*B) by simp only[Nat.mul_comm,Nat.mul_left_comm],show B*q2*A=q2*(A*B) by simp only[Nat.mul_comm,Nat.mul_left_comm]] at hm;have hs2:s2*A<A*B:=by rw[Nat.mul_comm A B];exact Nat.mul_lt_mul_of_pos_right r2 hA
 rcases Nat.lt_trichotomy q1 q2 with hq|hq|hq
 ·omega
 ·subst hq;have hc:s1*B<=s2*A:=by omega
  have up:∀ b c:Bool,(b=true->c=true)->b.toNat<=c.toNat:=by intro b c;cases b <;> cases c <;> simp
  refine Nat.add_le_add_left (up _ _ ?_) _;simp only[Bool.or_eq_true,Bool.and_eq_true,decide_eq_true_eq];rintro (hh|⟨hh,ho⟩)
  ·refine .inl (Nat.lt_of_mul_lt_mul_right (a:=A) ?_);have:A*B<2*s1*B:=Nat.mul_lt_mul_of_pos_right hh hB;rw[Nat.mul_comm B A];have e:2*s1*B=2*(s1*B):=by simp only[Nat.mul_comm,Nat.mul_assoc]
   have e':2*s2*A=2*(s2*A):=by simp only[Nat.mul_comm,Nat.mul_assoc]
   omega
  ·have h3:B<=2*s2:=by
    refine Nat.le_of_mul_le_mul_right (c:=A) ?_ hA;rw[Nat.mul_comm B A];have e:A*B=2*(s1*B):=by rw[<-Nat.mul_assoc,<-hh]
    have e':2*s2*A=2*(s2*A):=by simp only[Nat.mul_comm,Nat.mul_assoc]
    omega
   rcases Nat.lt_or_eq_of_le h3 with h4|h4
   ·exact .inl h4
   ·exact .inr ⟨h4,ho⟩
 ·exfalso
  have:(q2+1)*(A*B)<=q1*(A*B):=Nat.mul_le_mul_right _ hq;rw[Nat.add_mul,Nat.one_mul] at this;have h5:0<=s1*B:=Nat.zero_le _
  omega
theorem e53:2 ^ 53=9007199254740992:=by decide
theorem e52:2 ^ 52=4503599627370496:=by decide
theorem log2_le {m:Nat}(h:m≠0):2 ^ m.log2<=m:=Nat.log2_self_le h
theorem rung_step (a b k1 k2:Nat)(h:a+1<=b)(up:k1<=9007199254740992)(lo:4503599627370496<=k2):min (a*4503599627370496+k1) 9218868437227405312<=min (b*4503599627370496+k2) 9218868437227405312:=by omega
theorem rung_same (a k1 k2:Nat)(h:k1<=k2):min (a*4503599627370496+k1) 9218868437227405312<=min (a*4503599627370496+k2) 9218868437227405312:=by omega
theorem nearest_mono (m1 m2:Nat)(p1 p2 base:Int)(h1:base<=p1)(h2:base<=p2)(h:m1*2 ^ (p1-base).toNat<=m2*2 ^ (p2-base).toNat):D.nearest false m1 p1<=D.nearest false m2 p2:=by
 unfold Format.nearest;simp only[Format.word,Bool.false_eq_true,if_false,cut_rd,bin,inf,lp,fb,Nat.shiftLeft_eq]
 by_cases z1:m1=0
 ·rw[if_pos z1];exact Nat.zero_le _
 by_cases z2:m2=0
 ·subst z2;rw[Nat.zero_mul] at h;have:=Nat.mul_pos (Nat.pos_of_ne_zero z1) (Nat.two_pow_pos (p1-base).toNat)
  omega
 rw[if_neg z1,if_neg z2];have a1:=log2_le z1;have a2:=log2_le z2;have b1:=lt_log2 m1;have b2:=lt_log2 m2;generalize m1.log2=l1 at *;generalize m2.log2=l2 at *;obtain⟨s1,hs1⟩:∃ s1,s1=(p1-base).toNat:=⟨_,rfl⟩;obtain⟨s2,hs2⟩:∃ s2,s2=(p2-base).toNat:=⟨_,rfl⟩;rw[<-hs1,<-hs2] at h;have htop:l1+s1<l2+1+s2:=by
  have c1:2 ^ (l1+s1)<=m1*2 ^ s1:=by rw[Nat.pow_add];exact Nat.mul_le_mul_right _ a1
  have c2:m2*2 ^ s2<2 ^ (l2+1+s2):=by rw[Nat.pow_add];exact Nat.mul_lt_mul_of_pos_right b2 (Nat.two_pow_pos _)
  exact (Nat.pow_lt_pow_iff_right (by omega:1<2)).1 (Nat.lt_of_le_of_lt c1 (Nat.lt_of_le_of_lt h c2))
 obtain⟨t1,ht1⟩:∃ t:Int,t=max (p1+(l1:Int)-(52:Nat)) (-1074):=⟨_,rfl⟩;obtain⟨t2,ht2⟩:∃ t:Int,t=max (p2+(l2:Int)-(52:Nat)) (-1074):=⟨_,rfl⟩;rw[<-ht1,<-ht2];have hle:t1<=t2:=by omega
 rcases Int.lt_or_eq_of_le hle with hlt|heq
 ·have up:rd (m1*2 ^ (p1-t1).toNat) (t1-p1).toNat<=9007199254740992:=by
   have c:m1*2 ^ (p1-t1).toNat<2 ^ (t1-p1).toNat*9007199254740992:=by
    have c1:m1*2 ^ (p1-t1).toNat<2 ^ (l1+1)*2 ^ (p1-t1).toNat:=Nat.mul_lt_mul_of_pos_right b1 (Nat.two_pow_pos _);rw[<-Nat.pow_add] at c1;have c2:2 ^ (l1+1+(p1-t1).toNat)<=2 ^ ((t1-p1).toNat+53):=Nat.pow_le_pow_right (by omega) (by omega);rw[Nat.pow_add _ _ 53,e53] at c2;exact Nat.lt_of_lt_of_le c1 c2
   have:=Nat.div_lt_of_lt_mul c;have:=rd_le (m1*2 ^ (p1-t1).toNat) (t1-p1).toNat
   omega
  have lo:4503599627370496<=rd (m2*2 ^ (p2-t2).toNat) (t2-p2).toNat:=by
   have c:4503599627370496*2 ^ (t2-p2).toNat<=m2*2 ^ (p2-t2).toNat:=by
    have c1:2 ^ l2*2 ^ (p2-t2).toNat<=m2*2 ^ (p2-t2).toNat:=Nat.mul_le_mul_right _ a2;rw[<-Nat.pow_add] at c1;have c2:2 ^ (52+(t2-p2).toNat)<=2 ^ (l2+(p2-t2).toNat):=Nat.pow_le_pow_right (by omega) (by omega);rw[Nat.pow_add,e52] at c2;exact Nat.le_trans c2 c1
   have c3:=(Nat.le_div_iff_mul_le (Nat.two_pow_pos (t2-p2).toNat)).2 c;unfold rd;exact Nat.le_trans c3 (Nat.le_add_right _ _)
  exact rung_step _ _ _ _ (by omega) up lo
 ·subst heq;have hr:=rd_mono (m1*2 ^ (p1-t1).toNat) (t1-p1).toNat (m2*2 ^ (p2-t1).toNat) (t1-p2).toNat (by
   rw[Nat.mul_assoc,<-Nat.pow_add,Nat.mul_assoc,<-Nat.pow_add];refine Nat.le_of_mul_le_mul_right (c:=2 ^ s2) ?_ (Nat.two_pow_pos _);have e:(p1-t1).toNat+(t1-p2).toNat+s2=(p2-t1).toNat+(t1-p1).toNat+s1:=by omega
   calc m1*2 ^ ((p1-t1).toNat+(t1-p2).toNat)*2 ^ s2=m1*2 ^ ((p1-t1).toNat+(t1-p2).toNat+s2):=by rw[Nat.mul_assoc,<-Nat.pow_add]
    _=(m1*2 ^ s1)*2 ^ ((p2-t1).toNat+(t1-p1).toNat):=by rw[e,Nat.add_comm _ s1,Nat.pow_add,Nat.mul_assoc]
    _<=(m2*2 ^ s2)*2 ^ ((p2-t1).toNat+(t1-p1).toNat):=Nat.mul_le_mul_right _ h
    _=m2*2 ^ ((p2-t1).toNat+(t1-p1).toNat)*2 ^ s2:=by simp only[Nat.mul_comm,Nat.mul_left_comm,Nat.mul_assoc])
  exact rung_same _ _ _ hr
theorem read_pos (x:Nat)(hx:x<9218868437227405312):∃ m e:Nat,D.read x=.number false m (-1074+(e:Int))/\x=e*4503599627370496+m/\m<9007199254740992/\(0<e->4503599627370496<=m):=by
 obtain⟨m,e,h0,h1,h2,h3⟩:=read_num x (by omega) (by omega);rw[decide_eq_false (by omega)] at h0;exact⟨m,e,h0,by omega,h2,h3⟩
theorem signed_pos (m k:Nat):signed false m k=((m*2 ^ k:Nat):Int):=by rw[signed_of];rfl
end FM
end Go.Proofs.YtfffibepcdlldaaGreat

namespace Go.Proofs.YtfffibepcdlldaaGreat
open Go.ChangeShapes Go.WideShapes Go.ChangeAt Go.RowKit
open FM Ieee
abbrev fl (b:Nat):Value:=.float .f64 b
end Go.Proofs.YtfffibepcdlldaaGreat

namespace Go.Proofs.YtfffibepcdlldaaGreat
open Go.ChangeShapes Go.WideShapes Go.ChangeAt Go.RowKit
open FM
end Go.Proofs.YtfffibepcdlldaaGreat
