/- A part. -/
import Derived.Test.YtfffibepcdlldaaGreatZA03
import Derived.Lib.BufferWrite
set_option linter.unusedVariables false
set_option linter.unusedSimpArgs false
set_option maxRecDepth 100000
set_option maxHeartbeats 64000000
open Go.Proofs.Tryz

namespace Go.Proofs.YtfffibepcdlldaaGreat
open Go.ChangeShapes Go.WideShapes Go.ChangeAt Go.RowKit
theorem cel_take (l:List UInt8)(k:Nat):(cel l).take k=cel (l.take k):=by simp[cel,List.map_take]
theorem cel_drop (l:List UInt8)(k:Nat):(cel l).drop k=cel (l.drop k):=by simp[cel,List.map_drop]
theorem step_copy_bs {P:Program} {ops:Array Oper} {o:Oper} {a:Act} {w:World} {K:Act->World->Prop} {Q:Exit->Act->World->Prop} {E:Prop} (hg:o.guard=none) (d x:Operand) (dT sT:TypeId)
 (hop:o.op=Op.call { callee:=Callee.builtin Builtin.copy,args:=#[d,x],argTypes:=#[dT,sT] }) (elem:TypeId) (hu:P.underlying dT=some (.slice elem)) (hs:(P.info? elem).map (·.size)=some 1)
 (g off n c:Nat) (s:ByteArray) (bs:List UInt8) (t:TypeId) (hd:a.eval d=.slice (some ⟨g,off,none⟩) n c) (hx:a.eval x=.string s) (hrow:w.heap[g]? = some (.cells (cel bs).toArray t (0,0))) (hle:s.size<=n) (hfit:off+s.size<=bs.length)
 (hK:∀ w',w'.heap[g]? = some (.cells (cel (bs.take off ++ (s.data.toList ++ bs.drop (off+s.size)))).toArray t (0,0))->w.grownBy w' (some g)->K (a.put o.dst (goInt s.size)) w') :
 if Region.wanted o (yielded ops a.tmps)=true then Oper.wp P o a w K Q else E:=by
 have hw:Region.wanted o (yielded ops a.tmps)=true:=by simp[Region.wanted,hg]
 rw[if_pos hw];have hrun:=Lib.run_copy_row_string (P:=P) w dT sT o.type elem g off n c s (cel bs).toArray t hu hs hrow hle (by simpa[cel_length] using hfit);have hcs:((cel bs).toArray.toList.take off ++ Lib.byteCells s.data.toList ++ (cel bs).toArray.toList.drop (off+s.size))=cel (bs.take off ++ (s.data.toList ++ bs.drop (off+s.size))):=by
  rw[List.toList_toArray,cel_take,cel_drop,cel_append,cel_append,List.append_assoc];rfl
 rw[hcs] at hrun;unfold Oper.wp;simp[execOp,hop,resolve,invoke,builtin,hd,hx,hrun,Result.andThen];exact hK _ (setRow_heap w g _ _ _ _ hrow) ⟨rfl,rfl,rfl,by simp[World.setRow],fun k _ hk=>setRow_other w g k _ (fun e=>hk (by rw[e]))⟩
def BR (w:World)(g:Nat)(bs:List UInt8):Prop:=w.heap[g]? = some (.cells (cel bs).toArray 5 (0,0))
section
variable {w w':World}{g:Nat}{bs:List UInt8}
theorem BR.lt (h:BR w g bs):g<w.heap.size:=by
 rcases Nat.lt_or_ge g w.heap.size with hlt|hge
 ·exact hlt
 ·unfold BR at h;rw[Array.getElem?_eq_none hge] at h;cases h
theorem BR.below {B:Nat}(h:BR w g bs)(hb:Below B w w')(hg:g<B):BR w' g bs:=(hb.block g hg).trans h
theorem BR.alloc (h:BR w g bs)(o:Obj):BR (w.alloc o) g bs:=(Below.heap_alloc w o g h.lt).trans h
theorem BR.reads (h:BR w g bs)(hm:bs.length<=maxLen):BS w (some ⟨g,0,none⟩) bs.length bs.length bs:=by
 refine⟨rfl,Nat.le_refl _,hm,(fun h=>by cases h),fun a ha j u hu=>?_⟩;obtain rfl:=Option.some.inj ha;rw[Addr.add_lit,cell_of_row w g _ _ _ _ h];simpa using hu
theorem BR.made (N:Nat){base:Nat}{w:World}(h:w.ownsRow base 5 1 (.slice (some ⟨g,0,none⟩) N N) N (madeCells (Value.int .u8 0).cells (N*1)).toList):BR w g (List.replicate N 0):=by
 rcases h.2 with ⟨h',_⟩|⟨g',cap',cur,h',hb,hg,hnc,hcm,hcs,htake⟩
 ·simp at h'
 ·simp only[Value.slice.injEq,Option.some.injEq,Addr.mk.injEq,and_true,true_and] at h';obtain⟨rfl,rfl⟩:=h';unfold BR;rw[hg]
  congr 2
  rw[Nat.mul_one] at htake hcs;rw[List.take_of_length_le (by rw[Array.length_toList];omega)] at htake
  apply Array.toList_inj.1
  rw[htake];refine (toList_madeCells_one _ _).trans ?_;simp[cel]
end
theorem byte_one:(prog.info? 5).map (·.size)=some 1:=by kernel_rfl
theorem lay_next {p:List UInt8}{s:List UInt8}{N b:Nat}(hp:p.length=b)(hb:b+s.length<=N):(p ++ List.replicate (N-b) 0).take b ++ (s ++ (p ++ List.replicate (N-b) (0:UInt8)).drop (b+s.length))=(p ++ s) ++ List.replicate (N-(b+s.length)) 0:=by
 rw[List.take_left' hp,List.drop_append,List.drop_eq_nil_of_le (by omega),List.nil_append,List.drop_replicate,List.append_assoc]
 congr 3
 omega
theorem packed_any (ao:Option Addr)(n cap:Nat)(l:List (Int×ByteArray))(w:World)(h:XS w ao n cap l)(hp:∀ x∈l,0<x.2.size)(hc:EM.cnt l<=4000000) :
 Calls prog 187 #[.slice ao n cap] w fun e w'=>e=.returned (.string (strOf (EM.cat l)))/\Below w.heap.size w w':=by
 obtain⟨i0,hi0,hz0,hz1,hz2⟩:=info_parts info_byte;have hn:n<=9223372036854775807:=by have:=h.2.1;have:=h.2.2.1;unfold maxLen at *;omega
 have L:=Wd h.1;have H:=Wd h;have hcount:=Wd (count_any ao n cap l w h (by omega));have hle:=Wd (fun k=>EM.cnt_take l k);have hpos:=Wd hp;obtain⟨N,hN⟩:∃ N,EM.cnt l=N:=⟨_,rfl⟩;rw[hN] at hcount hle hc;have HN:=Wd hN;clear h hp hN;go_enter func187,ntmps187
 go_wp2_with fail
 refine hcount.out.mono ?_;rintro e w1 ⟨rfl,bel1⟩;go_wp2_with (at_make;apply Hid.out)
 refine Wd ?_;refine wpList_make_full _ rfl _ _ 208 rfl w.heap.size 5 i0 (.int .u8 0) 1 underlying208 hi0 hz0 hz1 .i64 .i64 _ _ N rfl rfl rfl rfl (by rw[hz2];omega) (by unfold maxLen;omega) bel1.size ?_;intro w2 hown hgrow;obtain⟨g,hg⟩:∃ g,g=w1.heap.size:=⟨_,rfl⟩;rw[<-hg] at hown ⊢;have hbr:=BR.made N hown;have bel2:=bel1.grown hgrow bel1.size (fun k hk=>by cases hk);have hgw:w.heap.size<=g:=by rw[hg];exact bel1.size
 clear hown hgrow hg bel1;go_wp2_with fail
 go_loopw [4,12] (fun f i wr=>∃ (k b:Nat),k<=n/\b<=N/\i=.int .i64 k/\f=.int .i64 b/\Hid (EM.cnt (l.take k)=b)/\Hid (BR wr g (EM.cat (l.take k) ++ List.replicate (N-b) 0))/\Below w.heap.size w wr) (fun _ i _=>n-(intOf i).toNat)
 case atStart=>exact⟨0,0,Nat.zero_le _,Nat.zero_le _,rfl,rfl,Wd rfl,hbr,bel2⟩
 case round=>
  clear hbr bel2;obtain⟨k,b,hk,hb,rfl,rfl,hok,hbr,bel⟩:=hrel
  by_cases hlt:k<n
  ·obtain⟨b1,o1,rfl,g1⟩:=(H.out.below bel (Nat.le_refl _)).at_ (by omega);have k1:k<l.length:=by rw[L.out];exact hlt
   obtain⟨e1,e2⟩:=g1 k hlt;have hnext:Hid (EM.cnt (l.take (k+1))=b+l[k].2.size):=by
    show _=_
    rw[EM.take_snoc l k k1,EM.cnt_append,EM.cnt_one,hok.out]
   have hbb:b+l[k].2.size<=N:=by rw[<-hnext.out];exact hle.out _
   have hcat:Hid (EM.cat (l.take (k+1))=EM.cat (l.take k) ++ l[k].2.data.toList):=by
    show _=_
    rw[EM.take_snoc l k k1,EM.cat_append,EM.cat_one]
   have hdp:=hpos.out l[k] (List.getElem_mem k1);obtain⟨⟨a,d⟩,hx⟩:∃ x,l[k]=x:=⟨_,rfl⟩;simp only[hx] at e1 e2 hnext hbb hcat hdp;clear hx g1 k1;have hw1:=XB.new wr a d rfl;have u1:=hw1.c1;have bel3:=bel.alloc bel.size (.cells #[.int .i64 a,.string d] 211);have hbr3:=Wd (hbr.out.alloc (.cells #[.int .i64 a,.string d] 211));have hgr:=hbr.out.lt;have hlen:Hid ((EM.cat (l.take k) ++ List.replicate (N-b) (0:UInt8)).length=N):=by
    show _=_
    rw[List.length_append,EM.cat_length,hok.out,List.length_replicate];omega
   go_wp2_with fail
   clear hw1 e1 e2 bel;have hne:¬ N=b:=by omega
   have hgne:some wr.heap.size≠some g:=by intro h;have:=Option.some.inj h;omega
   go_region_held3 (fun w'=>w'.cell? ⟨wr.heap.size,1,none⟩=some (.string d)) (first|go_keep|skip)
    ((refine step_copy_bs rfl (.tmp 19) (.tmp 21) 208 9 rfl 5 underlying208 byte_one g b (N-b) (N-b) d _ 5 (by rfl) (by rfl) hbr3.out (by omega) (by rw[hlen.out];omega) ?_;intro w3 hbr4 hgrow;have k1:=Own.cellg (Own.undrew hgrow) u1 hgne))
   have hwrap:IntKind.i64.wrap ((b:Int)+d.size)=((b+d.size:Nat):Int):=by rw[IntKind.wrap_i64];omega
   rw[hwrap];have hbr5:Hid (BR w3 g (EM.cat (l.take (k+1)) ++ List.replicate (N-(b+d.size)) 0)):=by
    have hs:=lay_next (p:=EM.cat (l.take k)) (s:=d.data.toList) (N:=N) (b:=b) (by rw[EM.cat_length,hok.out]) (by rw[EM.list_size];exact hbb);rw[EM.list_size] at hs;rw[hs] at hbr4
    show BR _ _ _
    rw[hcat.out];exact hbr4
   have bel5:=bel3.grown (Own.undrew hgrow) bel3.size (fun k h=>by have:=Option.some.inj h;omega);clear hbr hbr3 hbr4 hgrow bel3 u1 k1 hcat hok;go_wp2_with fail
   go_roundw
   case rel=>exact⟨k+1,b+d.size,by omega,hbb,by go_num,rfl,hnext,hbr5,bel5⟩
   case measure=>simp[intOf];omega
  ·obtain rfl:k=n:=by omega
   have hbN:Hid (b=N):=by
    have:=hok.out;rw[List.take_of_length_le (by rw[L.out];exact Nat.le_refl _),HN.out] at this;exact this.symm
   have hbr5:BR wr g (EM.cat l):=by
    have:=hbr.out;rw[List.take_of_length_le (by rw[L.out];exact Nat.le_refl _),hbN.out,Nat.sub_self,List.replicate_zero,List.append_nil] at this;exact this
   have hlen:(EM.cat l).length=N:=by rw[EM.cat_length,HN.out]
   have hrd:=hbr5.reads (by rw[hlen];unfold maxLen;omega);rw[hlen] at hrd;have hcv:=run_conv (P:=prog) 208 5 underlying208 underlying5 9 underlying9 hrd;clear hbr hbr5 hok hlen hrd;go_wp2_with fail
   go_ret
   exact⟨rfl,bel⟩
theorem wpList_append_ext {w:World} {ops:Array Oper} {rest:List Oper} {o:Oper} {a:Act} {Q:Exit->Act->World->Prop} (hgd:o.guard=none) (s x:Operand)
 (ho:o.op=.call { callee:=.builtin .append,args:=#[s,x],argTypes:=#[123,123] })
 (base:Nat) (v:Value) (n:Nat) (xs:List Value) (hs:a.eval s=v) (hown:w.ownsRow base 211 2 v n xs) (ao:Option Addr) (m c:Nat) (l:List (Int×ByteArray)) (hx:a.eval x=.slice ao m c) (hr:XS w ao m c l)
 (hnm:n+m<=4000000) (hbase:base<=w.heap.size)
 (h:∀ v' w',w'.ownsRow base 211 2 v' (n+m) (xs ++ ecl l)->w.grownBy w' v.ownBlock->wpList prog ops Q rest (a.put o.dst v') w'):wpList prog ops Q (o :: rest) a w:=by
 obtain⟨i0,hi,hz0,hz1,hz2⟩:=info_parts info_ext
 cases ao with
 | none=>
   have hc:c=0:=hr.2.2.2.1 rfl;have hm:m=0:=by have:=hr.2.1;omega
   subst hc;subst hm;obtain rfl:=List.eq_nil_of_length_eq_zero hr.1;refine wpList_append_own_none hgd s x 123 ho base 211 i0 2 underlying123 hi v n xs hs hown hx (h v w ?_ (World.grownBy.refl w _));simpa[ecl] using hown
 | some ad=>
   refine wpList_append_own_wide w hgd s x 123 ho base 211 i0 (.agg #[.int .i64 0,.string ByteArray.empty]) 2 24 underlying123 hi hz0 hz1 hz2 rfl (by decide) v n xs hs hown ad m c (ecl l) hx (by rw[ecl_length,hr.1]) (hr.2.2.2.2 ad rfl) (ecl_one l) (by unfold maxLen;omega) (by omega) hbase ?_;intro v' w' h1 h2 _;exact h v' w' h1 h2
def LS (w:World)(ao:Option Addr)(n cap:Nat)(ls:List (Value×List (Int×ByteArray))):Prop:=
 ls.length=n/\n<=cap/\cap<=maxLen/\(ao=none->cap=0)/\(∀ a,ao=some a->∀ j u,ls[j]? = some u->w.cell? (a.add j)=some u.1)/\∀ p∈ls,∃ ao n c,p.1=.slice ao n c/\XS w ao n c p.2
section
variable {w w':World}{ao:Option Addr}{n cap:Nat}{ls:List (Value×List (Int×ByteArray))}
theorem LS.below (h:LS w ao n cap ls){B:Nat}(hb:Below B w w')(hB:w.heap.size<=B):LS w' ao n cap ls:=by
 refine⟨h.1,h.2.1,h.2.2.1,h.2.2.2.1,fun a ha j u hu=>?_,fun p hp=>?_⟩
 ·have hc:=h.2.2.2.2.1 a ha j u hu;rw[hb.cell (Nat.lt_of_lt_of_le (World.block_lt_of_cell? w _ hc) hB)];exact hc
 ·obtain⟨a,n,c,h1,h2⟩:=h.2.2.2.2.2 p hp;exact⟨a,n,c,h1,h2.below hb hB⟩
theorem LS.at_ (h:LS w ao n cap ls)(hn:0<n):∃ blk off,ao=some ⟨blk,off,none⟩/\∀ j,(hj:j<n)->w.cell? ⟨blk,off+j,none⟩=some (ls[j]'(by rw[h.1];exact hj)).1:=by
 obtain⟨hl,h1,h2,h3,h4,h5⟩:=h
 cases ao with
 | none=>have:=h3 rfl;omega
 | some a=>
   have hcell:∀ j,(hj:j<n)->w.cell? (a.add j)=some (ls[j]'(by rw[hl];exact hj)).1:=fun j hj=>h4 a rfl j _ (List.getElem?_eq_getElem (by rw[hl];exact hj));obtain⟨b,off,spot⟩:=a;have h0:=hcell 0 hn;have hs:spot=none:=by simpa[Addr.add] using World.cell?_spot h0
   subst hs;exact⟨b,off,rfl,fun j hj=>by have:=hcell j hj;rwa[Addr.add_lit] at this⟩
end
def alls (ls:List (Value×List (Int×ByteArray))):List (Int×ByteArray):=ls.flatMap (·.2)
theorem alls_append (a b:List (Value×List (Int×ByteArray))):alls (a ++ b)=alls a ++ alls b:=by simp[alls]
theorem alls_one (x:Value×List (Int×ByteArray)):alls [x]=x.2:=by simp[alls]
theorem alls_take (ls:List (Value×List (Int×ByteArray)))(k:Nat):(alls (ls.take k)).length<=(alls ls).length:=by
 have:=alls_append (ls.take k) (ls.drop k);rw[List.take_append_drop] at this;rw[this,List.length_append];omega
theorem joined_any (lo:Option Addr)(ln lc:Nat)(ls:List (Value×List (Int×ByteArray)))(w:World)(h:LS w lo ln lc ls)(hw:EM.wk 0 (alls ls)) :
 Calls prog 157 #[.slice lo ln lc] w fun e w'=>∃ v,e=.returned v/\w'.ownsRow w.heap.size 211 2 v (EM.merge (alls ls)).length (ecl (EM.merge (alls ls)))/\Below w.heap.size w w':=by
 obtain⟨i0,hi0,hz0,hz1,hz2⟩:=info_parts info_ext;have hn:ln<=9223372036854775807:=by have:=h.2.1;have:=h.2.2.1;unfold maxLen at *;omega
 obtain⟨hc1,hc2⟩:=EM.wk_cnt hw (by decide);have L:=Wd h.1;have H:=Wd h;have hlen:=Wd (fun k=>alls_take ls k);obtain⟨all,hall⟩:∃ all,alls ls=all:=⟨_,rfl⟩;rw[hall] at hw hc1 hc2 ⊢;have HALL:=Wd hall;have halls:=Wd (show all.length<=1048576 by omega);have hcnt:=Wd (show EM.cnt all<=1048576 by omega);have hwk:=Wd hw;clear h hw hc1 hc2 hall;go_enter func157,ntmps157
 go_wp2_with fail
 go_loopw [3,16] (fun v i wr=>∃ (k m:Nat),k<=ln/\i=.int .i64 k/\Hid ((alls (ls.take k)).length=m)/\m<=1048576/\wr.ownsRow w.heap.size 211 2 v m (ecl (alls (ls.take k)))/\Below w.heap.size w wr) (fun _ i _=>ln-(intOf i).toNat)
 case atStart=>exact⟨0,0,Nat.zero_le _,rfl,Wd rfl,by omega,World.ownsRow_nil _ _ _ _,Below.refl _ _⟩
 case round=>
  obtain⟨k,m,hk,rfl,hm,hm2,hown,bel⟩:=hrel;obtain⟨ox,cx,rfl⟩:=Own.form hown
  by_cases hlt:k<ln
  ·have hls:=H.out.below bel (Nat.le_refl _);obtain⟨b1,o1,rfl,g1⟩:=hls.at_ (by omega);have k1:k<ls.length:=by rw[L.out];exact hlt
   have e1:=g1 k hlt;have hnext:Hid (alls (ls.take (k+1))=alls (ls.take k) ++ ls[k].2):=by
    show _=_
    rw[EM.take_snoc ls k k1,alls_append,alls_one]
   obtain⟨ay,ny,cy,hy,hxs⟩:=hls.2.2.2.2.2 ls[k] (List.getElem_mem k1);rw[hy] at e1;have hmn:m+ny<=1048576:=by
    have h1:=hlen.out (k+1);rw[hnext.out,List.length_append,hm.out,hxs.1,HALL.out] at h1;have:=halls.out
    omega
   have hxs:=Wd hxs;clear hls g1;go_wp2_with (at_builtin;apply Hid.out)
   refine Wd ?_;refine wpList_append_ext rfl (.tmp 20) (.tmp 21) rfl w.heap.size _ m _ rfl hown ay ny cy _ rfl hxs.out (by omega) bel.size ?_;intro v2 w2 hown2 hgrow;obtain⟨o2,c2,rfl⟩:=Own.form hown2;have bel2:=bel.grown hgrow bel.size (fun k h=>Own.ge hown k h);have hown3:w2.ownsRow w.heap.size 211 2 (.slice o2 (m+ny) c2) (m+ny) (ecl (alls (ls.take (k+1)))):=by
    rw[hnext.out,ecl_append];exact hown2
   have hm3:Hid ((alls (ls.take (k+1))).length=m+ny):=by
    show _=_
    rw[hnext.out,List.length_append,hm.out,hxs.out.1]
   clear hown hown2 hgrow bel hm hxs hnext e1 hy;go_wp2_with fail
   go_roundw
   case rel=>exact⟨k+1,m+ny,by omega,by go_num,hm3,by omega,hown3,bel2⟩
   case measure=>simp[intOf];omega
  ·obtain rfl:k=ln:=by omega
   have hm3:Hid (all.length=m):=by
    have:=hm.out;rwa[List.take_of_length_le (by rw[L.out];exact Nat.le_refl _),HALL.out] at this
   rw[List.take_of_length_le (by rw[L.out];exact Nat.le_refl _),HALL.out] at hown;clear hm HALL halls hlen H L;have hpk:=Wd (packed_any ox m cx all wr (XS_own hown) (EM.wk_pos hwk.out) (by have:=hcnt.out;omega));go_wp2_with fail
   refine hpk.out.mono ?_;rintro e w1 ⟨rfl,bel1⟩;have hown1:=Own.below hown bel1;have bel2:=bel.trans (bel1.mono bel.size);have hT:Hid ((strOf (EM.cat all)).data.toList=EM.cat all):=strOf_list _;generalize strOf (EM.cat all)=T at hT;clear hpk hown bel1 bel;go_wp2_with fail
   have hxs:=Wd (XS_own hown1);go_loopw [4,8,28] (fun v f i w'=>∃ (k b q:Nat) (o:List (Int×ByteArray)),k<=m/\q<=k/\b<=1048576/\i=.int .i64 k/\f=.int .i64 b/\Hid (EM.cnt (all.take k)=b)/\Hid (EM.merge (all.take k)=o/\o.length=q)/\w'.ownsRow w1.heap.size 211 2 v q (ecl o)/\Below w1.heap.size w1 w') (fun _ _ i _=>m-(intOf i).toNat)
   case atStart=>exact⟨0,0,0,[],Nat.zero_le _,Nat.le_refl _,by omega,rfl,rfl,Wd rfl,Wd ⟨rfl,rfl⟩,World.ownsRow_nil _ _ _ _,Below.refl _ _⟩
   case round=>
    obtain⟨k,b,q,o,hk,hqk,hb,rfl,rfl,hcb,ho,hown,bel⟩:=hrel;obtain⟨oo,co,rfl⟩:=Own.form hown
    by_cases hlt:k<m
    ·have hls:=hxs.out.below bel (Nat.le_refl _);obtain⟨b1,o1,rfl,g1⟩:=hls.at_ (by omega);have k1:k<all.length:=by rw[hm3.out];exact hlt
     obtain⟨e1,e2⟩:=g1 k hlt;have hat:=EM.wk_at hwk.out k k1;obtain⟨hd,ha,had,-⟩:=hat;have hnext:Hid (EM.cnt (all.take (k+1))=b+all[k].2.size):=by
      show _=_
      rw[EM.take_snoc all k k1,EM.cnt_append,EM.cnt_one,hcb.out]
     have hbb:b+all[k].2.size<=1048576:=by
      have h1:=EM.cnt_take all (k+1);rw[hnext.out] at h1;have:=hcnt.out;omega
     have hTs:b+all[k].2.size<=T.size:=by
      have h1:=EM.cnt_take all (k+1);rw[hnext.out] at h1;rw[EM.text_size hT.out];exact h1
     have hmg:Hid (EM.merge (all.take (k+1))=EM.put o all[k]):=by
      show _=_
      rw[EM.merge_take all k k1,ho.out.1]
     have ht1:=Wd (EM.text_one k1 hT.out);have ht2:=Wd (fun (y:ByteArray) (p:List UInt8) h=>@EM.text_two all k k1 T y hT.out p h);have hlast:=Wd (fun (p:List (Int×ByteArray)) y h=>@EM.merge_last (all.take k) p y (EM.wk_take hwk.out k) h);rw[hcb.out] at ht1;rw[hcb.out] at ht2;obtain⟨⟨a,d⟩,hx⟩:∃ x,all[k]=x:=⟨_,rfl⟩;simp only[hx,EM.fin] at e1 e2 hd ha had hnext hbb hTs hmg ht1 ht2;have hw2:=XB.new wr a d rfl;have u0:=hw2.c0;have u1:=hw2.c1;have bel3:=bel.alloc bel.size (.cells #[.int .i64 a,.string d] 211);have hown3:=hown.alloc (.cells #[.int .i64 a,.string d] 211);rcases List.eq_nil_or_concat o with rfl|⟨p,⟨ya,yd⟩,rfl⟩
     ·obtain rfl:q=0:=ho.out.2.symm;have hsl:∀ w,(Instr.slice 9 (.string T) (some (.int .i64 (b:Int))) (some (.int .i64 ((b:Int)+(d.size:Int)))) none).run prog w=.ok (.string d) w:=fun w=>by
       rw[run_slice_string w _ T _ _ _ _ underlying9 (by omega) (by omega) (by omega),show (b:Int).toNat=b by omega,show ((b:Int)+(d.size:Int)).toNat=b+d.size by omega,ht1.out]
      have hnm:Hid (EM.merge (all.take (k+1))=[(a,d)]):=by show _=_;rw[hmg.out];exact EM.put_nil _
      clear hls g1 hx ht1 ht2 hlast hcb ho hw2 hown hmg;go_wp2_with fail
      go_quiet (fail)
      obtain⟨W,hW⟩:∃ W,(wr.alloc (.cells #[.int .i64 a,.string d] 211)).drewN nq=W:=⟨_,rfl⟩;have c0:W.cell? ⟨wr.heap.size,0,none⟩=some (.int .i64 a):=by rw[<-hW];exact u0
      have c1:W.cell? ⟨wr.heap.size,1,none⟩=some (.string d):=by rw[<-hW];exact u1
      have hown4:W.ownsRow w1.heap.size 211 2 (.slice oo 0 co) 0 (ecl []):=by rw[<-hW];exact hown3
      have bel4:Below w1.heap.size w1 W:=by rw[<-hW];exact below_drewN bel3 _
      rw[hW];clear hW u0 u1 hown3 bel3 e1 e2 bel;go_wp2_with (at_builtin;apply Hid.out)
      refine Wd ?_;refine wpList_append_own_wide _ rfl (.tmp 70) (.tmp 77) 123 rfl w1.heap.size 211 i0 (.agg #[.int .i64 0,.string ByteArray.empty]) 2 24 underlying123 hi0 hz0 hz1 hz2 rfl (by decide) _ 0 (ecl []) rfl (hown4.alloc _) ⟨W.heap.size,0,none⟩ 1 1 [.int .i64 a,.string d] rfl rfl (Own.cells_two _ _ _ _ _) (by intro u hu;simp at hu;rcases hu with rfl|rfl <;> rfl) (by unfold maxLen;omega) (by omega) (by simp;have:=bel4.size;omega) ?_
      intro v2 w2 hown5 hgrow _;obtain⟨ao2,cap2,rfl⟩:=Own.form hown5;have bel5:=(bel4.alloc bel4.size _).grown hgrow (by simp;have:=bel4.size;omega) (fun k h=>Own.ge hown4 k h);clear c0 c1 hown4 bel4 hgrow;go_wp2_with fail
      go_roundw
      case rel=>exact⟨k+1,b+d.size,1,[(a,d)],by omega,by omega,by omega,by go_num,by go_num,hnext,Wd ⟨hnm.out,rfl⟩,hown5,bel5⟩
      case measure=>simp[intOf];omega
     ·rw[List.concat_eq_append] at *;obtain rfl:q=p.length+1:=by have:=ho.out.2;rw[<-this];simp
      obtain⟨hy1,hy2,hy3⟩:=hlast.out p (ya,yd) ho.out.1;simp only[EM.fin] at hy2;have hyb:yd.size<=b:=by
       have h1:=congrArg List.length hy3;rw[EM.cat_length,hcb.out,List.length_append] at h1;simp only[EM.list_size] at h1
       omega
      obtain⟨b2,o2,rfl,g2⟩:=(XS_own hown).at_ (by omega);obtain⟨f1,f2⟩:=g2 p.length (by omega);simp only[List.getElem_append_right (Nat.le_refl p.length),Nat.sub_self,List.getElem_cons_zero] at f1 f2;have hco:p.length+1<=co:=(XS_own hown).2.1;have F1:Hid ((wr.alloc (.cells #[.int .i64 a,.string d] 211)).cell? ⟨b2,o2+p.length*2,none⟩=some (.int .i64 ya)):=(World.cell?_alloc_lt wr _ _ (World.block_lt_of_cell? wr _ f1)).trans f1;have F2:Hid ((wr.alloc (.cells #[.int .i64 a,.string d] 211)).cell? ⟨b2,o2+p.length*2+1,none⟩=some (.string yd)):=(World.cell?_alloc_lt wr _ _ (World.block_lt_of_cell? wr _ f2)).trans f2;have hend:=Wd (fun w=>end_any ya yd w (by omega) (by omega));have hps:EM.put (p ++ [(ya,yd)]) (a,d)=if ya+yd.size=a then p ++ [(ya,yd ++ d)] else p ++ [(ya,yd)] ++ [(a,d)]:=EM.put_snoc _ _ _;have n1:((p.length:Int)+1-1)=p.length:=by omega
      by_cases hya:ya+yd.size=a
      ·obtain⟨r,hr⟩:∃ r,r=yd ++ d:=⟨_,rfl⟩;have hsl:∀ w,(Instr.slice 9 (.string T) (some (.int .i64 ((b:Int)-(yd.size:Int)))) (some (.int .i64 ((b:Int)+(d.size:Int)))) none).run prog w=.ok (.string r) w:=fun w=>by
        rw[run_slice_string w _ T _ _ _ _ underlying9 (by omega) (by omega) (by omega),show ((b:Int)-(yd.size:Int)).toNat=b-yd.size by omega,show ((b:Int)+(d.size:Int)).toNat=b+d.size by omega,ht2.out yd (EM.cat p) hy3,hr]
       have hnm:Hid (EM.merge (all.take (k+1))=p ++ [(ya,r)]):=by show _=_;rw[hmg.out,hps,if_pos hya,hr]
       have hyq:((ya+(yd.size:Int)) == a)=true:=by simpa using hya
       clear hls g1 hx ht1 ht2 hlast hcb ho hw2 hown hmg hps hy3 g2 f1 f2 hr;go_wp2_with fail
       go_quiet (fail)
       obtain⟨W,hW⟩:∃ W,(wr.alloc (.cells #[.int .i64 a,.string d] 211)).drewN nq=W:=⟨_,rfl⟩;have c0:W.cell? ⟨wr.heap.size,0,none⟩=some (.int .i64 a):=by rw[<-hW];exact u0
       have c1:W.cell? ⟨wr.heap.size,1,none⟩=some (.string d):=by rw[<-hW];exact u1
       have y0:W.cell? ⟨b2,o2+p.length*2,none⟩=some (.int .i64 ya):=by rw[<-hW];exact F1.out
       have y1:W.cell? ⟨b2,o2+p.length*2+1,none⟩=some (.string yd):=by rw[<-hW];exact F2.out
       have hown4:W.ownsRow w1.heap.size 211 2 (.slice (some ⟨b2,o2,none⟩) (p.length+1) co) (p.length+1) (ecl (p ++ [(ya,yd)])):=by rw[<-hW];exact hown3
       have bel4:Below w1.heap.size w1 W:=by rw[<-hW];exact below_drewN bel3 _
       rw[hW];clear hW u0 u1 hown3 bel3 e1 e2 bel F1 F2;go_wp2_with fail
       refine (hend.out _).mono ?_;rintro e w5 ⟨rfl,bel5⟩;have z0:=(bel5.cell (World.block_lt_of_cell? W _ y0)).trans y0;have z1:=(bel5.cell (World.block_lt_of_cell? W _ y1)).trans y1;have hown5:=Own.cut (Own.below hown4 bel5) (k:=p.length) (by omega);rw[ecl_take,List.take_left' rfl] at hown5;have bel6:=bel4.trans (bel5.mono bel4.size);clear c0 c1 y0 y1 hown4 bel4 bel5 hend hya;go_wp2_with (at_builtin;apply Hid.out)
       refine Wd ?_;refine wpList_append_own_wide _ rfl (.tmp 70) (.tmp 77) 123 rfl w1.heap.size 211 i0 (.agg #[.int .i64 0,.string ByteArray.empty]) 2 24 underlying123 hi0 hz0 hz1 hz2 rfl (by decide) _ p.length (ecl p) rfl (hown5.alloc _) ⟨w5.heap.size,0,none⟩ 1 1 [.int .i64 ya,.string r] rfl rfl (Own.cells_two _ _ _ _ _) (by intro u hu;simp at hu;rcases hu with rfl|rfl <;> rfl) (by unfold maxLen;omega) (by omega) (by simp;have:=bel6.size;omega) ?_
       intro v2 w2 hown6 hgrow _;obtain⟨ao2,cap2,rfl⟩:=Own.form hown6;have bel7:=(bel6.alloc bel6.size _).grown hgrow (by simp;have:=bel6.size;omega) (fun k h=>Own.ge hown5 k h);clear z0 z1 hown5 bel6 hgrow;go_wp2_with fail
       go_roundw
       case rel=>exact⟨k+1,b+d.size,p.length+1,p ++ [(ya,r)],by omega,by omega,by omega,by go_num,by go_num,hnext,Wd ⟨hnm.out,by simp⟩,(by rw[ecl_append];exact hown6),bel7⟩
       case measure=>simp[intOf];omega
      ·have hsl:∀ w,(Instr.slice 9 (.string T) (some (.int .i64 (b:Int))) (some (.int .i64 ((b:Int)+(d.size:Int)))) none).run prog w=.ok (.string d) w:=fun w=>by
        rw[run_slice_string w _ T _ _ _ _ underlying9 (by omega) (by omega) (by omega),show (b:Int).toNat=b by omega,show ((b:Int)+(d.size:Int)).toNat=b+d.size by omega,ht1.out]
       have hnm:Hid (EM.merge (all.take (k+1))=(p ++ [(ya,yd)]) ++ [(a,d)]):=by show _=_;rw[hmg.out,hps,if_neg hya]
       have hyq:((ya+(yd.size:Int)) == a)=false:=by simpa using hya
       clear hls g1 hx ht1 ht2 hlast hcb ho hw2 hown hmg hps hy3 g2 f1 f2;go_wp2_with fail
       go_quiet (fail)
       obtain⟨W,hW⟩:∃ W,(wr.alloc (.cells #[.int .i64 a,.string d] 211)).drewN nq=W:=⟨_,rfl⟩;have c0:W.cell? ⟨wr.heap.size,0,none⟩=some (.int .i64 a):=by rw[<-hW];exact u0
       have c1:W.cell? ⟨wr.heap.size,1,none⟩=some (.string d):=by rw[<-hW];exact u1
       have y0:W.cell? ⟨b2,o2+p.length*2,none⟩=some (.int .i64 ya):=by rw[<-hW];exact F1.out
       have y1:W.cell? ⟨b2,o2+p.length*2+1,none⟩=some (.string yd):=by rw[<-hW];exact F2.out
       have hown4:W.ownsRow w1.heap.size 211 2 (.slice (some ⟨b2,o2,none⟩) (p.length+1) co) (p.length+1) (ecl (p ++ [(ya,yd)])):=by rw[<-hW];exact hown3
       have bel4:Below w1.heap.size w1 W:=by rw[<-hW];exact below_drewN bel3 _
       rw[hW];clear hW u0 u1 hown3 bel3 e1 e2 bel F1 F2;go_wp2_with fail
       refine (hend.out _).mono ?_;rintro e w5 ⟨rfl,bel5⟩;have hown5:=Own.below hown4 bel5;have bel6:=bel4.trans (bel5.mono bel4.size);clear c0 c1 y0 y1 hown4 bel4 bel5 hend hya;go_wp2_with (at_builtin;apply Hid.out)
       refine Wd ?_;refine wpList_append_own_wide _ rfl (.tmp 70) (.tmp 77) 123 rfl w1.heap.size 211 i0 (.agg #[.int .i64 0,.string ByteArray.empty]) 2 24 underlying123 hi0 hz0 hz1 hz2 rfl (by decide) _ (p.length+1) (ecl (p ++ [(ya,yd)])) rfl (hown5.alloc _) ⟨w5.heap.size,0,none⟩ 1 1 [.int .i64 a,.string d] rfl rfl (Own.cells_two _ _ _ _ _) (by intro u hu;simp at hu;rcases hu with rfl|rfl <;> rfl) (by unfold maxLen;omega) (by omega) (by simp;have:=bel6.size;omega) ?_
       intro v2 w2 hown6 hgrow _;obtain⟨ao2,cap2,rfl⟩:=Own.form hown6;have bel7:=(bel6.alloc bel6.size _).grown hgrow (by simp;have:=bel6.size;omega) (fun k h=>Own.ge hown5 k h);clear hown5 bel6 hgrow;go_wp2_with fail
       go_roundw
       case rel=>exact⟨k+1,b+d.size,p.length+1+1,(p ++ [(ya,yd)]) ++ [(a,d)],by omega,by omega,by omega,by go_num,by go_num,hnext,Wd ⟨hnm.out,by simp⟩,(by rw[ecl_append];exact hown6),bel7⟩
       case measure=>simp[intOf];omega
    ·obtain rfl:k=m:=by omega
     have hh:Hid (EM.merge all=o):=by
      have:=ho.out.1;rwa[List.take_of_length_le (by rw[hm3.out];exact Nat.le_refl _)] at this
     have hq:=Wd ho.out.2;clear ho hcb;go_wp2_with fail
     go_ret
     refine⟨_,rfl,?_,bel2.trans (bel.mono bel2.size)⟩;rw[hh.out,hq.out];exact Own.low bel2.size hown
def stV (l:List (Int×ByteArray)):Int:=if EM.ok 0 l=true then (EM.cnt l:Int) else 0
def stE (l:List (Int×ByteArray)):Int:=if EM.ok 0 l=true then 0 else 2
theorem Stored_any (ao:Option Addr)(n cap:Nat)(l:List (Int×ByteArray))(w:World)(h:XS w ao n cap l)(hf:XFit l) :
 Calls prog 150 #[.slice ao n cap] w fun e w'=>e=.returned (.tuple #[.int .i64 (stV l),.int .i64 (stE l)])/\Below w.heap.size w w':=by
 have hval:=xvalid_any ao n cap l w h hf;have H:=Wd h
 cases hv:EM.ok 0 l with
 | false=>
   have e1:Hid (stV l=0/\stE l=2):=by unfold stV stE;rw[hv];exact⟨rfl,rfl⟩
   rw[hv] at hval;have hval:=Wd hval;clear hv h;go_enter func150,ntmps150
   go_wp2_with fail
   refine hval.out.mono ?_;rintro e w1 ⟨rfl,bel1⟩;go_wp2_with fail
   go_ret2
   exact⟨by rw[e1.out.1,e1.out.2];rfl,bel1⟩
 | true=>
   have e1:Hid (stV l=EM.cnt l/\stE l=0):=by unfold stV stE;rw[hv];exact⟨rfl,rfl⟩
   have hc:=Wd (fun w h=>count_any ao n cap l w h (by have:=(ok_nums hv).2;omega));rw[hv] at hval;have hval:=Wd hval;clear hv h;go_enter func150,ntmps150
   go_wp2_with fail
   refine hval.out.mono ?_;rintro e w1 ⟨rfl,bel1⟩;go_wp2_with fail
   refine (hc.out _ (H.out.below bel1 (Nat.le_refl _))).mono ?_;rintro e w2 ⟨rfl,bel2⟩;go_wp2_with fail
   go_ret2
   exact⟨by rw[e1.out.1,e1.out.2];rfl,bel1.trans (bel2.mono bel1.size)⟩
def Gave (L:List (Int×ByteArray))(E:Int)(w:World)(e:Ending)(w':World):Prop:=∃ v,e=.returned (.tuple #[v,.int .i64 E]) /\
 w'.ownsRow w.heap.size 211 2 v L.length (ecl L)/\Below w.heap.size w w'
theorem gave_no {L:List (Int×ByteArray)}{E:Int}{w w':World}{k:Int}(h:L=[]/\E=k)(hb:Below w.heap.size w w'):Gave L E w (.returned (.tuple #[.slice none 0 0,.int .i64 k])) w':=by
 obtain⟨rfl,rfl⟩:=h;exact⟨_,rfl,World.ownsRow_nil _ _ _ _,hb⟩
theorem LS_one {w:World}{v:Value}{ao:Option Addr}{n c:Nat}{l:List (Int×ByteArray)}{t:TypeId}(hv:v=.slice ao n c)(h:XS w ao n c l):LS (w.alloc (.cells #[v] t)) (some ⟨w.heap.size,0,none⟩) 1 1 [(v,l)]:=by
 refine⟨rfl,by decide,by unfold maxLen;omega,(fun h=>by cases h),fun a ha j u hu=>?_,fun p hp=>?_⟩
 ·obtain rfl:=Option.some.inj ha;have hj:j<1:=(List.getElem?_eq_some_iff.1 hu).1;obtain rfl:j=0:=by omega
  obtain rfl:(v,l)=u:=by simpa using hu
  exact cell_one_new w v t 0 v rfl
 ·obtain rfl:=List.mem_singleton.1 hp;exact⟨ao,n,c,hv,h.alloc _⟩
def ctL (l:List (Int×ByteArray))(s:Int):List (Int×ByteArray):=if EM.ok 0 l=true/\0<=s then EM.part 0 s l else []
def ctE (l:List (Int×ByteArray))(s:Int):Int:=if EM.ok 0 l=true/\0<=s then 0 else 2
theorem Cut_any (ao:Option Addr)(n cap:Nat)(l:List (Int×ByteArray))(s:Int)(w:World)(h:XS w ao n cap l)(hf:XFit l)(hs:I64 s) :
 Calls prog 116 #[.slice ao n cap,.int .i64 s] w (Gave (ctL l s) (ctE l s) w):=by
 have hval:=xvalid_any ao n cap l w h hf;have H:=Wd h
 cases hv:EM.ok 0 l with
 | false=>
   have HE:=Wd (fun w'=>@gave_no (ctL l s) (ctE l s) w w' 2 (by unfold ctL ctE;rw[hv];exact⟨if_neg (by simp),if_neg (by simp)⟩));rw[hv] at hval;have hval:=Wd hval;clear hv h;go_enter func116,ntmps116
   go_wp2_with fail
   refine hval.out.mono ?_;rintro e w1 ⟨rfl,bel1⟩;go_wp2_with fail
   go_ret2
   exact HE.out _ bel1
 | true=>
   by_cases hs0:s<0
   ·have HE:=Wd (fun w'=>@gave_no (ctL l s) (ctE l s) w w' 2 (by unfold ctL ctE;rw[hv];exact⟨if_neg (by omega),if_neg (by omega)⟩));rw[hv] at hval;have hval:=Wd hval;clear hv h;go_enter func116,ntmps116
    go_wp2_with fail
    refine hval.out.mono ?_;rintro e w1 ⟨rfl,bel1⟩;go_wp2_with fail
    go_ret2
    exact HE.out _ bel1
   ·have e1:Hid (ctL l s=EM.part 0 s l/\ctE l s=0):=by unfold ctL ctE;rw[hv];exact⟨if_pos ⟨rfl,by omega⟩,if_pos ⟨rfl,by omega⟩⟩
    have hpt:=Wd (fun w h=>part_any ao n cap l 0 s w h hv (by unfold I64;omega) hs);have hok:=Wd (EM.ok_part hv 0 s (Int.le_refl _));rw[hv] at hval;have hval:=Wd hval;clear hv h;go_enter func116,ntmps116
    go_wp2_with fail
    refine hval.out.mono ?_;rintro e w1 ⟨rfl,bel1⟩;go_wp2_with fail
    refine (hpt.out _ (H.out.below bel1 (Nat.le_refl _))).mono ?_;rintro e w2 ⟨v,rfl,hown2,bel2⟩;obtain⟨o2,c2,rfl⟩:=Own.form hown2;have hj:=joined_any _ 1 1 _ _ (LS_one (t:=123) rfl (XS_own hown2)) (by rw[alls_one];exact EM.ok_wk hok.out);rw[alls_one,EM.merge_id hok.out] at hj;have hj:=Wd hj;have bel3:=bel1.trans (bel2.mono bel1.size);have bel4:=bel3.alloc bel3.size (.cells #[.slice o2 (EM.part 0 s l).length c2] 123);go_wp2_with fail
    refine hj.out.mono ?_;rintro e w3 ⟨v3,rfl,hown3,bel5⟩;go_wp2_with fail
    go_ret2
    refine⟨v3,by rw[e1.out.2];rfl,?_,bel4.trans (bel5.mono bel4.size)⟩;rw[e1.out.1];exact Own.low bel4.size hown3
end Go.Proofs.YtfffibepcdlldaaGreat
