/- Contracts of package inode's Write, Trunc, of stores that are there. -/
import Derived.Test.YtfffibepcdlldaaGreatZA07
import Derived.Test.YtfffibepcdlldaaGreatZA01
set_option linter.unusedVariables false
set_option linter.unusedSimpArgs false
set_option maxRecDepth 100000
set_option maxHeartbeats 64000000
open Go.Proofs.Tryz

namespace Go.Proofs.YtfffibepcdlldaaGreat
open Go.ChangeShapes Go.WideShapes Go.ChangeAt Go.RowKit Go.Maps
namespace IN
def stV (S:Int->Option Nd)(n:Int):List Value:=match S n with
 | none=>zl
 | some d=>stl n d
section
variable {base sg mb I L B k:Nat}{M:Int->Option Nat}{S:Int->Option Nd}
theorem Stat_any (n:Int)(w:World)(h:PS base w sg mb M I L B k S)(hn:IS.I64 n) :
 Calls prog 33 #[.pointer (some ⟨sg,0,none⟩),.int .i64 n] w fun e w'=>e=.returned (.tuple #[.agg (stV S n).toArray,.int .i64 (opR S n)])/\Below w.heap.size w w':=by
 have hmf:∀ (fn:Fn) (first cap:Array Value) (w:World),(Instr.makeFunc fn first cap).run prog w=.ok (.func fn first cap) w:=fun _ _ _ _=>rfl;obtain⟨W0,hW0⟩:∃ W0,w.alloc (.cells #[.int .i64 0,.int .i64 0,.int .i64 0,.int .i64 0,.int .i64 0,.int .i64 0] 65)=W0:=⟨_,rfl⟩;have hb0:Below w.heap.size w W0:=by rw[<-hW0];exact (Below.refl _ _).alloc (Nat.le_refl _) _
 have hr0:Blk W0 w.heap.size 65 zl:=by rw[<-hW0];exact Blk.new w _ zl rfl
 have h0:=h.keep hb0;have cA:=ask_two n h0.pm hn;have e1:(askR S n fun _=>0)=opR S n:=rfl;rw[e1] at cA;have hs0:w.heap.size<=W0.heap.size:=hb0.size
 cases hS:S n with
 | none=>
   have e2:opR S n=11:=by simp[opR,askR,hS]
   have e3:stV S n=zl:=by simp[stV,hS]
   rw[e2,e3];rw[e2] at cA;replace cA:=Wd cA;replace hb0:=Wd hb0;replace hr0:=Wd hr0;clear h h0 e1 e2 e3 hS;go_enter func33,ntmps33
   go_wp2_with fail
   refine cA.out.mono ?_;rintro e w1 ⟨rfl,b1⟩;have hr1:=hr0.out.keep b1;have f1:=hr1.fz;have r0:=hr1.cell (j:=0) rfl;have r1:=hr1.cell (j:=1) rfl;have r2:=hr1.cell (j:=2) rfl;have r3:=hr1.cell (j:=3) rfl;have r4:=hr1.cell (j:=4) rfl;have r5:=hr1.cell (j:=5) rfl;have hfin:=Wd (six_blk hr1 0 0 0 0 0 0);have hbl:=Wd (six_below (hb0.out.trans (b1.mono hs0)) (Nat.le_refl _) 0 0 0 0 0 0);clear hr1 b1;go_wp2_with fail
   exact bodyPost_ret (res_two rfl _ _ rfl hfin.out) rfl ⟨rfl,hbl.out⟩
 | some d=>
   have e2:opR S n=0:=by simp[opR,askR,hS]
   have e3:stV S n=stl n d:=by simp[stV,hS]
   rw[e2,e3];rw[e2] at cA;have cS:=Wd (fun w' (hb:Below W0.heap.size W0 w')=>stat_any n d w' (h0.keep hb).pm hn hS (h.fn.good n d hS).ok);replace cA:=Wd cA;replace hb0:=Wd hb0;replace hr0:=Wd hr0;clear h h0 e1 e2 e3 hS;go_enter func33,ntmps33
   go_wp2_with fail
   refine cA.out.mono ?_;rintro e w1 ⟨rfl,b1⟩;have cS1:=Wd (cS.out w1 b1);have b1:=Wd b1;go_wp2_with fail
   refine cS1.out.mono ?_;rintro e w2 ⟨rfl,b2⟩;have b2:=b1.out.trans (b2.mono b1.out.size);have hr1:=hr0.out.keep b2;have f1:=hr1.fz;have r0:=hr1.cell (j:=0) rfl;have r1:=hr1.cell (j:=1) rfl;have r2:=hr1.cell (j:=2) rfl;have r3:=hr1.cell (j:=3) rfl;have r4:=hr1.cell (j:=4) rfl;have r5:=hr1.cell (j:=5) rfl;have hfin:=Wd (six_blk hr1 n d.kind d.links d.opens d.size (EM.cnt d.l:Int));have hbl:=Wd (six_below (hb0.out.trans (b2.mono hs0)) (Nat.le_refl _) n d.kind d.links d.opens d.size (EM.cnt d.l:Int));unfold stl;clear hr1 b2 b1;go_wp2_with fail
   exact bodyPost_ret (res_two rfl _ _ rfl hfin.out) rfl ⟨rfl,hbl.out⟩
end
def cap7 (a b c d e f g:Int):Value:=.agg #[.int .i64 a,.int .i64 b,.int .i64 c,.int .i64 d,.int .i64 e,.int .i64 f,.int .i64 g]
def Right (a b c:Int):Prop:=1<=a/\a<=4096/\0<=b/\b<=16777216/\1<=c/\c<=32768
theorem New_yes (a b c d e f g:Int)(w:World)(hr:Right a b c) :
 Calls prog 9 #[cap7 a b c d e f g] w fun r w'=>∃ sg mb M,r=.returned (.tuple #[.pointer (some ⟨sg,0,none⟩),.int .i64 0])/\PS w.heap.size w' sg mb M a.toNat c.toNat b.toNat 0 (fun _=>none)/\Below w.heap.size w w':=by
 have hmm:=@run_makeMap prog;obtain⟨h1,h2,h3,h4,h5,h6⟩:=hr;unfold cap7;go_enter func9,ntmps9
 go_wp2_with fail
 go_ret2
 have ht:tot (fun _=>none) a.toNat=0:=by have:=(Fine.empty a.toNat c.toNat 0).tot;omega
 refine⟨_,_,fun _=>none,rfl,⟨⟨?_,(IS.MB.new _).alloc _,fun _=>⟨fun _=>rfl,fun _=>rfl⟩,fun _ _ _ h=>(by cases h),fun _ _ _ h=>(by cases h),⟨by (try simp) <;> omega,by (try simp) <;> omega,fun _ _ h=>by cases h⟩⟩,Fine.empty _ _ _,by omega⟩,?_⟩
 ·rw[ht,Int.toNat_of_nonneg h3,Int.toNat_of_nonneg (by omega:0<=a),Int.toNat_of_nonneg (by omega:0<=c)];simp only[Int.ofNat_zero,Int.sub_zero];have hsz:∀ (o:Obj),(w.alloc o).heap.size=w.heap.size+1:=fun o=>by simp
  rw[hsz];exact Blk.new _ 80 [.map (some (w.heap.size+1)),.int .i64 a,.int .i64 c,.int .i64 b] (by simp)
 ·exact (((Below.refl _ w).alloc (Nat.le_refl _) _).alloc (by simp) _).alloc (by simp;omega) _
end IN
namespace IN
section
variable {base sg mb I L B k:Nat}{M:Int->Option Nat}{S:Int->Option Nd}
def mkR (I:Nat)(S:Int->Option Nd)(kd:Int):Int:=if kd=1∨kd=2 then (if (lst S I).length<I then 0 else 21) else 2
theorem ask_make (kd:Int)(w:World)(h:PS base w sg mb M I L B k S) :
 Calls prog 52 #[.int .i64 kd,.slice (some ⟨w.heap.size,0,none⟩) 3 3] (w.alloc (.cells #[.func (.func 53) #[.pointer (some ⟨sg,0,none⟩)] #[],.func (.func 71) #[] #[],.func (.func 72) #[.pointer (some ⟨sg,0,none⟩)] #[]] 42)) fun e w'=>e=.returned (.int .i64 (mkR I S kd))/\Below w.heap.size w w':=by
 have hal:=(Below.refl w.heap.size w).alloc (Nat.le_refl _) (.cells #[.func (.func 53) #[.pointer (some ⟨sg,0,none⟩)] #[],.func (.func 71) #[] #[],.func (.func 72) #[.pointer (some ⟨sg,0,none⟩)] #[]] 42);have hb:∀ W,Below _ _ W->Below w.heap.size w W:=fun W hW=>hal.trans (hW.mono hal.size);refine (first_make (.pointer (some ⟨sg,0,none⟩)) _ _ _ 0 (if kd=1∨kd=2 then 0 else 2) (if ((ks S I).length:Int)<(I:Int) then 0 else 21) kd w.heap.size _ (chk_blk w [.func (.func 53) #[.pointer (some ⟨sg,0,none⟩)] #[],.func (.func 71) #[] #[],.func (.func 72) #[.pointer (some ⟨sg,0,none⟩)] #[]] _ rfl)
  (fun w=>by kernel_rfl) (fun w=>by kernel_rfl) (fun w=>by kernel_rfl) (fun W hW=>made_some _ W (h.keep (hb W hW)).pm) (fun W _ hW=>isKind_any kd W) (fun W _ _ hW=>room_any _ _ W (h.keep (hb W hW)).pm h.nums)).mono ?_
 rintro e w' ⟨rfl,hb'⟩;refine⟨?_,hb w' hb'⟩;have hlen:((ks S I).length:Int)<(I:Int)↔(lst S I).length<I:=by rw[ks_len];omega
 unfold mkR
 by_cases h1:kd=1∨kd=2
 ·by_cases h2:(lst S I).length<I
  ·simp[fst,h1,h2,hlen]
  ·simp[fst,h1,h2,hlen]
 ·simp[fst,h1]
theorem Make_no (kd:Int)(w:World)(h:PS base w sg mb M I L B k S)(r:Int)(hr:mkR I S kd=r)(hr0:r≠0) :
 Calls prog 31 #[.pointer (some ⟨sg,0,none⟩),.int .i64 kd] w fun e w'=>e=.returned (.tuple #[.int .i64 0,.int .i64 r])/\Below w.heap.size w w':=by
 have hmf:∀ (fn:Fn) (first cap:Array Value) (w:World),(Instr.makeFunc fn first cap).run prog w=.ok (.func fn first cap) w:=fun _ _ _ _=>rfl;have cA:=ask_make kd w h;rw[hr] at cA;replace cA:=Wd cA;clear h hr;go_enter func31,ntmps31
 go_wp2_with fail
 refine cA.out.mono ?_;rintro e w1 ⟨rfl,b1⟩;go_wp2_with fail
 go_ret2
 exact⟨rfl,b1⟩
def newNd (kd:Int):Nd:={ kind:=kd,links:=1,opens:=0,size:=0,l:=[] }
theorem wpList_update_n {w:World} {ops:Array Oper} {rest:List Oper} {o:Oper} {a:Act} {Q:Exit->Act->World->Prop} (hg:o.guard=none) (m x v:Operand) (hop:o.op=Op.mapUpdate 78 m x v)
 (b:Nat) (f:Int) (g:Nat) (M:Int->Option Nat) (hm:a.eval m=.map (some b)) (hx:a.eval x=.int .i64 f) (hv:a.eval v=.pointer (some ⟨g,0,none⟩)) (h:IS.MB w b M) (hf:0<=f/\f<65536)
 (hK:∀ w',IS.MB w' b (IS.upd M f (some g))->w.grownBy w' (some b)->w'.heap.size=w.heap.size->wpList prog ops Q rest (a.put o.dst undef) w'):wpList prog ops Q (o :: rest) a w:=by
 refine wpList_plain hg fun K' hK'=>?_;obtain⟨w',hrun,r1,r2,r3⟩:=h.put f g hf;unfold Oper.wp;simp[execOp,hop,hm,hx,hv,hrun,Result.andThen];exact hK' _ _ (hK w' r1 r2 r3)
theorem Make_yes (kd:Int)(n:Nat)(w:World)(h:PS base w sg mb M I L B k S)(hr:mkR I S kd=0)(hlow:Low S n)(hnI:n<=I)(hL:1<=L) :
 Calls prog 31 #[.pointer (some ⟨sg,0,none⟩),.int .i64 kd] w fun e w'=>e=.returned (.tuple #[.int .i64 (n:Int),.int .i64 0])/\(∃ M',PS base w' sg mb M' I L B k (upd S (n:Int) (some (newNd kd))))/\Keeps base (PT mb) w w':=by
 have hmf:∀ (fn:Fn) (first cap:Array Value) (w:World),(Instr.makeFunc fn first cap).run prog w=.ok (.func fn first cap) w:=fun _ _ _ _=>rfl;have cA:=ask_make kd w h;rw[hr] at cA;replace cA:=Wd cA;have hkd:kd=1∨kd=2:=by
  unfold mkR at hr
  by_cases e:kd=1∨kd=2
  ·exact e
  ·rw[if_neg e] at hr;cases hr
 have hI:=h.lim.1;have H:=Wd h;have hn1:=hlow.1;have hlow:=Wd hlow;have hkd:=Wd hkd;clear h hr;go_enter func31,ntmps31
 go_wp2_with fail
 refine cA.out.mono ?_;rintro e w1 ⟨rfl,b1⟩;have h1:=H.out.keep b1;have c0:=h1.pm.box.cell (j:=0) rfl;have hlook:=Wd (fun f hf=>h1.pm.mp.look f hf);have hsome:Hid (∀ m:Nat,1<=m->m<n->∃ g,M (m:Int)=some g):=Wd (fun m a b=>by
  have:=hlow.out.2.2 m a b;have hd:=h1.pm.dom (m:Int)
  cases e:M (m:Int) with
  | none=>exact absurd (hd.1 e) this
  | some g=>exact⟨g,rfl⟩)
 have hnone:Hid (M (n:Int)=none):=Wd ((h1.pm.dom _).2 hlow.out.2.1);have hlw:=H.out.low;have b1':=Wd b1;have h1:=Wd h1;clear b1 cA;go_wp2_with fail
 go_loopw [7] (fun v wr=>∃ m:Nat,v=.int .i64 (m:Int)/\1<=m/\m<=n/\wr=w1) (fun v _=>n-(intOf v).toNat)
 case atStart=>exact⟨1,rfl,Nat.le_refl _,hn1,rfl⟩
 case round=>
  obtain⟨m,rfl,hm1,hmn,rfl⟩:=hrel;have hlk:=hlook.out (m:Int) (IS.i64_nat (by omega));rcases Nat.lt_or_ge m n with hlt|hge
  ·obtain⟨g,hg⟩:=hsome.out m hm1 hlt;rw[hg] at hlk;simp only[IS.ptr] at hlk;clear hg;go_wp2_with fail
   go_roundw
   case rel=>exact⟨m+1,by go_num,by omega,by omega,by first|trivial|rfl⟩
   case measure=>simp[intOf];omega
  ·obtain rfl:m=n:=by omega
   rw[hnone.out] at hlk;simp only[IS.ptr] at hlk;have hmb:=Wd (h1.out.pm.mp.alloc (.cells #[.int .i64 kd,.int .i64 1,.int .i64 0,.int .i64 0,.slice none 0 0] 143));have hbk:=Wd (h1.out.pm.alloc (.cells #[.int .i64 kd,.int .i64 1,.int .i64 0,.int .i64 0,.slice none 0 0] 143));have hnw:=Wd (Blk.new wr 143 (ncl (newNd kd) (.slice none 0 0)) rfl);have hgsz:∀ x g,M x=some g->g<wr.heap.size:=fun x g hx=>h1.out.pm.glt hx;have hgsz:=Wd hgsz;go_wp2_with (first|(refine wpList_update_n rfl _ _ _ rfl mb (m:Int) wr.heap.size M rfl rfl rfl hmb.out (by omega) ?_;intro w2 hm2 hg2 hs2))
   have hu:∀ x,IS.upd M (m:Int) (some wr.heap.size) x=none↔upd S (m:Int) (some (newNd kd)) x=none:=fun x=>by
    by_cases e:x=(m:Int)
    ·subst e;rw[upd_at];simp[IS.upd]
    ·rw[upd_ne e];unfold IS.upd;rw[if_neg e];exact h1.out.pm.dom x
   obtain⟨q1,q2⟩:=hbk.out.turn hm2 hg2 (upd S (m:Int) (some (newNd kd))) hu (fun x g' d' hM' hS'=>by
    by_cases e:x=(m:Int)
    ·subst e;rw[upd_at] at hS'
     cases hS'
     unfold IS.upd at hM';rw[if_pos rfl] at hM'
     cases hM'
     exact .inr ⟨_,⟨hnw.out,XE.nil _⟩,by have:=b1'.out.size;omega⟩
    ·rw[upd_ne e] at hS';unfold IS.upd at hM';rw[if_neg e] at hM';exact .inl ⟨hM',hS'⟩) (fun x y g' hA hB=>by
    unfold IS.upd at hA hB
    split at hA
    ·split at hB
     ·omega
     ·cases hA;have:=hgsz.out _ _ hB;omega
    ·split at hB
     ·cases hB;have:=hgsz.out _ _ hA;omega
     ·exact h1.out.pm.inj x y g' hA hB)
   have ht:=tot_upd S m I (some (newNd kd)) hm1 hnI;rw[hlow.out.2.1] at ht;simp only[cntOf,newNd,EM.cnt_nil] at ht;have ht:tot (upd S (m:Int) (some (newNd kd))) I=tot S I:=by simp only[newNd];omega
   have q1:=Wd q1;have q2:=Wd ((Keeps.new (T:=PT mb) b1'.out hlw).trans (((Keeps.refl base (PT mb) wr).alloc (Nat.le_trans hlw b1'.out.size) _).trans q2));have ht:=Wd ht;clear hm2 hg2 hu hs2;go_wp2_with fail
   go_ret2
   have hf1:=h1.out.fn;refine⟨rfl,⟨IS.upd M (m:Int) (some wr.heap.size),?_,hf1.turn hm1 hnI (fun d hd=>by
    cases hd
    exact⟨hkd.out,by simp[newNd];omega,by simp[newNd],by simp[newNd],by simp[newNd],rfl,by simp[newNd,ends],fun _=>⟨rfl,rfl⟩⟩) (by have:=hf1.tot;simp[cntOf,newNd,EM.cnt_nil];omega),h1.out.lim⟩,q2.out⟩
   rw[ht.out];exact q1.out
end
end IN
namespace IN
theorem nxt_ge:∀ {b:Int} {l:List (Int×ByteArray)},EM.ok b l=true->l≠[]->b<=EM.nxt b l-1
 | _,[],_,h=>absurd rfl h
 | b,x :: r,h,_=>by
   obtain⟨h1,h2,h3,h4⟩:=EM.ok_cons.1 h;have hf:EM.fin x=x.1+x.2.size:=rfl
   show b<=EM.nxt (EM.fin x+1) r-1
   cases r with
   | nil=>show b<=EM.fin x+1-1;omega
   | cons y r'=>have:=nxt_ge h4 (by simp);omega
theorem none_from:∀ {b:Int} {l:List (Int×ByteArray)},EM.ok b l=true->∀ i,EM.nxt b l-1<=i->l≠[]->EM.cont l i=none
 | _,[],_,_,_,_=>rfl
 | b,x :: r,h,i,hi,_=>by
   obtain⟨h1,h2,h3,h4⟩:=EM.ok_cons.1 h;have hi':EM.nxt (EM.fin x+1) r-1<=i:=hi
   show (EM.get x i).or (EM.cont r i)=none
   cases r with
   | nil=>
     have:EM.nxt (EM.fin x+1) []=EM.fin x+1:=rfl;rw[EM.get_none (.inr (by omega))];rfl
   | cons y r'=>
     have h5:=nxt_ge h4 (by simp);rw[EM.get_none (.inr (by omega)),none_from h4 i hi' (by simp)];rfl
theorem cnt_nxt:∀ {b:Int} {l:List (Int×ByteArray)},EM.ok b l=true->l≠[]->(EM.cnt l:Int)<=EM.nxt b l-1-b
 | _,[],_,h=>absurd rfl h
 | b,x :: r,h,_=>by
   obtain⟨h1,h2,h3,h4⟩:=EM.ok_cons.1 h;have hf:EM.fin x=x.1+x.2.size:=rfl;rw[EM.cnt_cons]
   show _<=EM.nxt (EM.fin x+1) r-1-b
   cases r with
   | nil=>show _<=EM.fin x+1-1-b;rw[EM.cnt_nil];omega
   | cons y r'=>have:=cnt_nxt h4 (by simp);omega
theorem ends_eq {l:List (Int×ByteArray)}(h:l≠[]):ends l=EM.nxt 0 l-1:=by
 cases l with
 | nil=>exact absurd rfl h
 | cons x r=>rfl
theorem cnt_ends {l:List (Int×ByteArray)}(h:EM.ok 0 l=true):(EM.cnt l:Int)<=ends l:=by
 by_cases e:l=[]
 ·subst e;exact Int.le_refl _
 ·rw[ends_eq e];have:=cnt_nxt h e;omega
theorem none_ends {l:List (Int×ByteArray)}(h:EM.ok 0 l=true)(i:Int)(hi:ends l<=i):EM.cont l i=none:=by
 by_cases e:l=[]
 ·subst e;rfl
 ·rw[ends_eq e] at hi;exact none_from h i hi e
theorem ends_le {l:List (Int×ByteArray)}(h:EM.ok 0 l=true){b:Int}(hb:0<=b)(hc:∀ i,b<=i->EM.cont l i=none):ends l<=b:=by
 rcases List.eq_nil_or_concat l with rfl|⟨q,x,rfl⟩
 ·exact hb
 ·rw[List.concat_eq_append] at h hc ⊢;have e:ends (q ++ [x])=EM.fin x:=by
   rw[ends_eq (by simp),EM.nxt_snoc];omega
  rw[e];have h0:0<x.2.size:=EM.wk_pos (EM.ok_wk h) x (by simp);have hf:EM.fin x=x.1+x.2.size:=rfl;rcases Int.lt_or_le b (EM.fin x) with hlt|hle
  ·obtain⟨c,hx⟩:=EM.get_some (x:=x) (i:=EM.fin x-1) (by omega) (by omega);have h1:=hc (EM.fin x-1) (by omega);rw[EM.cont_append,EM.cont_one,hx] at h1
   cases hq:EM.cont q (EM.fin x-1) <;> rw[hq] at h1 <;> cases h1
  ·exact hle
theorem cnt_part (lo hi:Int):∀ l:List (Int×ByteArray),EM.cnt (EM.part lo hi l)<=EM.cnt l
 | []=>Nat.le_refl _
 | x :: r=>by
   have ih:=cnt_part lo hi r;rw[EM.cnt_cons];unfold EM.part at ih ⊢
   cases h:EM.piece lo hi x with
   | none=>rw[List.filterMap_cons_none h];omega
   | some y=>
     rw[List.filterMap_cons_some h,EM.cnt_cons];obtain⟨h1,h2,h3⟩:=EM.piece_fin h;have hf:EM.fin x=x.1+x.2.size:=rfl;have hg:EM.fin y=y.1+y.2.size:=rfl
     omega
theorem ends_part {l:List (Int×ByteArray)}(h:EM.ok 0 l=true){s:Int}(hs:0<=s):EM.ok 0 (EM.part 0 s l)=true/\ends (EM.part 0 s l)<=s:=
 ⟨EM.ok_part h 0 s (Int.le_refl _),ends_le (EM.ok_part h 0 s (Int.le_refl _)) hs fun i hi=>by rw[EM.cont_part,if_neg (by omega)]⟩
theorem ends_wr {l:List (Int×ByteArray)}(h:EM.ok 0 l=true){f:Int}{d:ByteArray}(hf:0<=f)(hd:f+d.size<=1048576){s:Int}(hs:ends l<=s)(h0:0<=s) :
 EM.ok 0 (EM.wr l f d)=true/\ends (EM.wr l f d)<=if d.size=0 then s else max s (f+d.size):=by
 refine⟨EM.wr_ok h hf hd,?_⟩
 by_cases e:d.size=0
 ·rw[if_pos e,EM.wr_nil h e];exact hs
 ·rw[if_neg e];exact ends_le (EM.wr_ok h hf hd) (by omega) fun i hi=>by
   rw[EM.wr_cont h hf hd,if_neg (by omega)];exact none_ends h i (by omega)
section
variable {base sg mb I L B k:Nat}{M:Int->Option Nat}{S:Int->Option Nd}
theorem ask_file {w:World}(n:Int){I L left:Int}(h:PM base w sg mb M I L left S)(hn:IS.I64 n) :
 Calls prog 52 #[.int .i64 n,.slice (some ⟨w.heap.size,0,none⟩) 3 3] (w.alloc (.cells #[.func (.func 53) #[.pointer (some ⟨sg,0,none⟩)] #[],.func (.func 73) #[.pointer (some ⟨sg,0,none⟩)] #[],.func (.func 112) #[.pointer (some ⟨sg,0,none⟩)] #[]] 42)) fun e w'=>e=.returned (.int .i64 (askR S n fun d=>if d.kind=1 then 0 else 14))/\Below w.heap.size w w':=
 ask_three 112 (fun d=>if d.kind=1 then 0 else 14) n h hn (fun w=>by kernel_rfl) (fun d hS W hW=>file_any n d W (h.keep hW) hn hS)
theorem Read_yes (n f m:Int)(d:Nd)(w:World)(h:PS base w sg mb M I L B k S)(hn:IS.I64 n)(hf:I64 f)(hm:I64 m)(hS:S n=some d)(hk:d.kind=1) :
 Calls prog 66 #[.pointer (some ⟨sg,0,none⟩),.int .i64 n,.int .i64 f,.int .i64 m] w fun e w'=>e=.returned (.tuple #[.string (strOf (rdV d.l d.size f m)),.int .i64 (rdE d.l d.size f m)])/\Below w.heap.size w w':=by
 have hmf:∀ (fn:Fn) (first cap:Array Value) (w:World),(Instr.makeFunc fn first cap).run prog w=.ok (.func fn first cap) w:=fun _ _ _ _=>rfl;have cA:=ask_file n h.pm hn;have hr:(askR S n fun d=>if d.kind=1 then (0:Int) else 14)=0:=by simp[askR,hS,hk]
 rw[hr] at cA;have cA:=Wd cA;have H:=Wd h;have hS:=Wd hS;clear h hr;go_enter func66,ntmps66
 go_wp2_with fail
 refine cA.out.mono ?_;rintro e w1 ⟨rfl,b1⟩;have h1:=H.out.keep b1;have c0:=h1.pm.box.cell (j:=0) rfl;have hlk:=h1.pm.mp.look n hn;obtain⟨g,v,hM,hN,hge,hgs,hgm⟩:=h1.pm.has hS.out;rw[hM] at hlk;simp only[IS.ptr] at hlk;have hg:=h1.fn.good n d hS.out;obtain⟨ao,nn,cc,rfl,hx1,-⟩:=hN.2;have hb1:=Wd b1;have cR:=Wd (Read_any ao nn cc d.l d.size f m w1.drew hx1 (ok_fit (Int.le_refl _) hg.ok) ⟨by have:=hg.size;omega,by have:=hg.size;omega⟩ hf hm);have hNN:=Wd (show Blk w1.drew g 143 (ncl d (.slice ao nn cc)) from hN.1);have hN1:=Wd (fun w' (hb:Below w1.heap.size w1 w')=>hN.1.keep hb);clear h1 hN hM b1 hx1 hg;go_wp2_with fail
 refine wp_region_held_drew (S:=(fun w'=>Blk w' g 143 (ncl d (.slice ao nn cc)))) (by kernel_rfl) hNN.out (fun hHeld=>?_);refine wt (i:=0) (v:=.pointer (some ⟨g,0,none⟩)) hHeld ?_;refine wt (i:=1) (v:=.pointer (some ⟨g,0,none⟩)) hHeld ?_;refine wt (i:=2) (v:=.pointer (some ⟨g,4,none⟩)) hHeld ?_;refine wt (i:=3) (v:=.slice ao nn cc) hHeld ?_ (hv:=fun w0 s1=>by (have q:=Blk.cell (j:=4) s1 rfl;go_simp));refine wt (i:=4) (v:=.pointer (some ⟨g,0,none⟩)) hHeld ?_;refine wt (i:=5) (v:=.pointer (some ⟨g,0,none⟩)) hHeld ?_;refine wt (i:=6) (v:=.pointer (some ⟨g,3,none⟩)) hHeld ?_;refine wt (i:=7) (v:=.int .i64 d.size) hHeld ?_ (hv:=fun w0 s1=>by (have q:=Blk.cell (j:=3) s1 rfl;go_simp));refine wt (i:=8) (v:=.int .i64 f) hHeld ?_;refine wt (i:=9) (v:=.int .i64 m) hHeld ?_;refine wpAnyH_ready (rs:=[10]) (by kernel_rfl) (by simp) ?_;refine AllReadyH.cons rfl (fun K hK=>?_) AllReadyH.nil;go_simp
 refine cR.out.mono ?_;rintro e w2 ⟨rfl,hb2⟩;have hN2:=hN1.out w2 (Own.bundrew hb2);refine hK.out _ _ hN2 (fun hHeld1=>?_);clear hK K
 try simp only[Act.put,List.setIfInBounds_toArray,List.set_cons_zero,List.set_cons_succ,List.getElem_toArray,List.getElem_cons_zero,List.getElem_cons_succ]
 refine wt (i:=11) (v:=.string (strOf (rdV d.l d.size f m))) hHeld1 ?_;refine wt (i:=12) (v:=.int .i64 (rdE d.l d.size f m)) hHeld1 ?_;refine wt (i:=13) (v:=.string (strOf (rdV d.l d.size f m))) hHeld1 ?_;refine wt (i:=14) (v:=.int .i64 (rdE d.l d.size f m)) hHeld1 ?_;refine wpAnyH_done (by kernel_rfl) ?_ _;go_wp2_with fail
 go_ret2
 exact⟨rfl,hb1.out.trans ((Own.bundrew hb2).mono hb1.out.size)⟩
end
end IN
namespace IN
def wNd (d:Nd)(f:Int)(s:ByteArray):Nd:={ d with l:=EM.wr d.l f s,size:=if s.size=0 then d.size else max d.size (f+s.size) }
def wrErr (I B:Nat)(S:Int->Option Nd)(n f:Int)(s:ByteArray):Int:=askR S n fun d=>if d.kind=1 then (if wrE d.l f s=0 then (if tot S I+EM.cnt (EM.wr d.l f s)<=B+EM.cnt d.l then 0 else 21) else wrE d.l f s) else 14
def wrS (I B:Nat)(S:Int->Option Nd)(n f:Int)(s:ByteArray):Int->Option Nd:=match S n with
 | none=>S
 | some d=>if d.kind=1/\wrE d.l f s=0/\tot S I+EM.cnt (EM.wr d.l f s)<=B+EM.cnt d.l then upd S n (some (wNd d f s)) else S
def tNd (d:Nd)(s:Int):Nd:={ d with l:=EM.part 0 s d.l,size:=s }
def tErr (S:Int->Option Nd)(n s:Int):Int:=askR S n fun d=>if d.kind=1 then (if s<0 then 2 else if 1048576<s then 28 else 0) else 14
def tS (S:Int->Option Nd)(n s:Int):Int->Option Nd:=match S n with
 | none=>S
 | some d=>if d.kind=1/\0<=s/\s<=1048576 then upd S n (some (tNd d s)) else S
section
variable {base sg mb I L B k:Nat}{M:Int->Option Nat}{S:Int->Option Nd}
theorem turn_left {n:Int}{d d':Nd}(hf:Fine I L B k S)(hS:S n=some d)(hg:Good L k d')(ht:(EM.cnt d'.l:Int)-(EM.cnt d.l:Int)<=(B:Int)-(tot S I:Int)) :
 Fine I L B k (upd S n (some d'))/\(B:Int)-(tot S I:Int)-((EM.cnt d'.l:Int)-(EM.cnt d.l:Int))=(B:Int)-(tot (upd S n (some d')) I:Int):=by
 have hb:=hf.num n (by rw[hS];simp);obtain⟨m,rfl⟩:∃ m:Nat,n=m:=⟨n.toNat,by omega⟩;have h:=tot_upd S m I (some d') (by omega) (by omega);rw[hS] at h;simp only[cntOf] at h;have h2:=tot_ge S m I (by omega) (by omega);rw[hS] at h2;simp only[cntOf] at h2;exact⟨hf.turn (by omega) (by omega) (fun x hx=>by cases hx;exact hg) (by rw[hS];simp only[cntOf];omega),by omega⟩
theorem wr_good {d:Nd}{f:Int}{s:ByteArray}(hg:Good L k d)(hk:d.kind=1)(he:wrE d.l f s=0):Good L k (wNd d f s)/\wrL d.l f s=EM.wr d.l f s/\EM.ok 0 (EM.wr d.l f s)=true/\0<=f/\f+s.size<=1048576:=by
 have h0:0<=f/\f+s.size<=1048576:=by
  unfold wrE at he
  split at he
  ·rename_i h
   split at he
   ·exact⟨h.2,by assumption⟩
   ·cases he
  ·cases he
 obtain⟨h1,h2⟩:=ends_wr hg.ok (d:=s) h0.1 h0.2 hg.fin hg.size.1;refine⟨⟨hg.kind,hg.links,hg.opens,hg.some,?_,h1,h2,fun h=>?_⟩,by unfold wrL;rw[if_pos he],h1,h0⟩
 ·have:=hg.size
  show 0<=(if s.size=0 then d.size else max d.size (f+s.size))/\(if s.size=0 then d.size else max d.size (f+s.size))<=1048576
  split <;> omega
 ·have e:d.kind=2:=h;rw[hk] at e;cases e
theorem t_good {d:Nd}{s:Int}(hg:Good L k d)(hk:d.kind=1)(h0:0<=s)(h1:s<=1048576):Good L k (tNd d s)/\ctL d.l s=EM.part 0 s d.l/\EM.ok 0 (EM.part 0 s d.l)=true:=by
 obtain⟨h2,h3⟩:=ends_part hg.ok h0;exact⟨⟨hg.kind,hg.links,hg.opens,hg.some,⟨h0,h1⟩,h2,h3,fun h=>by
  have e:d.kind=2:=h;rw[hk] at e;cases e⟩,by unfold ctL;rw[if_pos ⟨hg.ok,h0⟩],h2⟩
theorem Write_any (n f:Int)(s:ByteArray)(w:World)(h:PS base w sg mb M I L B k S)(hn:IS.I64 n)(hf:I64 f)(hs:s.size<=maxLen) :
 Calls prog 69 #[.pointer (some ⟨sg,0,none⟩),.int .i64 n,.int .i64 f,.string s] w (Out base sg mb I L B k w (wrErr I B S n f s) (wrS I B S n f s)):=by
 have hmf:∀ (fn:Fn) (first cap:Array Value) (w:World),(Instr.makeFunc fn first cap).run prog w=.ok (.func fn first cap) w:=fun _ _ _ _=>rfl;have cA:=ask_file n h.pm hn
 by_cases hno:∃ d,S n=some d/\d.kind=1
 ·obtain⟨d,hS,hk⟩:=hno;have hr:(askR S n fun d=>if d.kind=1 then (0:Int) else 14)=0:=by simp[askR,hS,hk]
  rw[hr] at cA;have cA:=Wd cA;have H:=Wd h;have hg:=h.fn.good n d hS;have hlow:=Wd h.low;obtain⟨E,hE⟩:∃ E,wrE d.l f s=E:=⟨_,rfl⟩;have hSS:∀ x,wrErr I B S n f s=x↔(if E=0 then (if tot S I+EM.cnt (EM.wr d.l f s)<=B+EM.cnt d.l then (0:Int) else 21) else E)=x:=fun x=>by unfold wrErr askR;rw[hS];simp[hk,hE]
  have hSt:wrS I B S n f s=if E=0/\tot S I+EM.cnt (EM.wr d.l f s)<=B+EM.cnt d.l then upd S n (some (wNd d f s)) else S:=by unfold wrS;rw[hS];simp[hk,hE]
  replace hS:=Wd hS;replace hSS:=Wd hSS;replace hSt:=Wd hSt;have hG:=Wd hg;have hwg:=Wd (fun he=>wr_good (s:=s) (f:=f) hg hk he);replace hE:=Wd hE;clear h hr hg;go_enter func69,ntmps69
  go_wp2_with fail
  refine cA.out.mono ?_;rintro e w1 ⟨rfl,b1⟩;have h1:=H.out.keep b1;have c0:=h1.pm.box.cell (j:=0) rfl;have hlk:=h1.pm.mp.look n hn;obtain⟨g,v,hM,hN,hge,hgs,hgm⟩:=h1.pm.has hS.out;rw[hM] at hlk;simp only[IS.ptr] at hlk;obtain⟨ao,nn,cc,rfl,hx1,-⟩:=hN.2;have d4:=hN.1.cell (j:=4) rfl;have cW:=Go.Proofs.YtfffibepcdlldaaGreat.Write_any ao nn cc d.l f s w1 hx1 (ok_fit (Int.le_refl _) hG.out.ok) hf hs;rw[hE.out] at cW;have hb1:=Wd b1;have cW:=Wd cW;have hM:=Wd hM;have hN:=Wd hN;have h1:=Wd h1;clear b1 hx1;go_wp2_with fail
  refine cW.out.mono ?_;rintro e w2 ⟨v2,rfl,ho2,b2⟩;have b2':=Wd (hb1.out.trans (b2.mono hb1.out.size))
  by_cases he:E=0
  ·obtain⟨hGw,hL2,hok2,hf0,hf1⟩:=hwg.out (hE.out.trans he);subst he;rw[hL2] at ho2;have hX2:=XE.own ho2;have h2:=h1.out.keep b2;have hN2:NB w2 g d (.slice ao nn cc):=⟨hN.out.1.keep b2,hN.out.2.keep b2⟩;have htot:=h2.fn.tot;have hlim:=h2.lim;have cR:=Wd (replace_any n g d _ v2 (EM.wr d.l f s) w2 h2.pm hM.out hS.out hN2 hX2 hG.out.ok hok2 ⟨by omega,by omega⟩);obtain⟨ao2,nn2,cc2,rfl,-,-⟩:=hX2;have h2:=Wd h2;have hGw:=Wd hGw;clear ho2 b2 hN2 hL2 hok2 htot hlim cW cA;go_wp2_with fail
   refine cR.out.mono ?_;rintro e w3 (⟨q1,rfl,b3⟩|⟨q1,rfl,q2,q3,q4⟩)
   ·have hbad:¬ (tot S I+EM.cnt (EM.wr d.l f s)<=B+EM.cnt d.l):=by omega
    have e1:wrErr I B S n f s=21:=(hSS.out _).2 (by simp[hbad]);have e2:wrS I B S n f s=S:=by rw[hSt.out];simp[hbad]
    have e1:=Wd e1;have e2:=Wd e2;have b3:=Wd (b2'.out.trans (b3.mono b2'.out.size));clear q1 hbad cR;go_wp2_with fail
    go_ret
    rw[e1.out,e2.out];exact Out.same H.out (Nat.le_refl _) b3.out 21
   ·have hgood:tot S I+EM.cnt (EM.wr d.l f s)<=B+EM.cnt d.l:=by omega
    have e1:wrErr I B S n f s=0:=(hSS.out _).2 (by simp[hgood]);have e2:wrS I B S n f s=upd S n (some (wNd d f s)):=by rw[hSt.out];simp[hgood]
    have e1:=Wd e1;have e2:=Wd e2;obtain⟨t1,t2⟩:=turn_left (d':=wNd d f s) h2.out.fn hS.out hGw.out q1;have K0:=Wd ((Keeps.new (T:=PT mb) b2'.out hlow.out).trans q4);have t1:=Wd t1;have hlim:=Wd h2.out.lim;have t2':(B:Int)-(tot S I:Int)-((EM.cnt (EM.wr d.l f s):Int)-(EM.cnt d.l:Int))=(B:Int)-(tot (upd S n (some (wNd d f s))) I:Int):=t2;rw[t2'] at q2;clear q1 hgood cR t2 t2' q4 h2 h1
    by_cases hz:s.size=0
    ·obtain⟨z1,z2⟩:=xempty hz;have ew:wNd d f s={ d with l:=EM.wr d.l f s }:=by unfold wNd;rw[if_pos hz]
     have ez:s=⟨#[]⟩:=EM.ba_inj (List.eq_nil_of_length_eq_zero (by rw[EM.list_size];exact hz));rw[ew] at t1 q2 e2;replace q2:=Wd q2;replace q3:=Wd q3;replace ez:=Wd ez;clear ew;go_wp2_with fail
     go_ret
     rw[e1.out,e2.out];exact⟨rfl,⟨M,q2.out,t1.out,hlim.out⟩,K0.out⟩
    ·obtain⟨z1,z2⟩:=xfull hz;obtain⟨mx,hmx⟩:∃ mx,(if d.size<f+(s.size:Int) then f+(s.size:Int) else d.size)=mx:=⟨_,rfl⟩;have hmax:max d.size (f+(s.size:Int))=mx:=by rw[<-hmx];split <;> omega
     have ew:wNd d f s={ d with l:=EM.wr d.l f s,size:=mx }:=by unfold wNd;rw[if_neg hz,hmax]
     have hw:IntKind.i64.wrap (f+(s.size:Int))=f+(s.size:Int):=by rw[IntKind.wrap_i64];omega
     have f3:=q3.1.fz;have d3:=q3.1.cell (j:=3) rfl;obtain⟨r1,r2,r3⟩:=q2.setNode (n:=n) (d':={ d with l:=EM.wr d.l f s,size:=mx }) (v':=.slice ao2 nn2 cc2) hM.out (upd_at _ _ _) q3.1 q3.2 3 (.int .i64 mx) rfl;rw[upd_upd] at r1;rw[ew] at t1 r1 e2;replace r1:=Wd r1;have K1:=Wd (K0.out.trans r3);clear q2 q3 r2 r3 ew hmax;go_wp2_with fail
     go_ret
     rw[e1.out,e2.out];exact⟨rfl,⟨M,r1.out,t1.out,hlim.out⟩,K1.out⟩
  ·have e1:wrErr I B S n f s=E:=(hSS.out _).2 (by rw[if_neg he]);have e2:wrS I B S n f s=S:=by rw[hSt.out,if_neg (fun h=>he h.1)]
   have e1:=Wd e1;have e2:=Wd e2;clear cW cA b2;obtain⟨ao2,c2,rfl⟩:=Own.form ho2;clear ho2;go_wp2_with fail
   go_ret
   rw[e1.out,e2.out];exact Out.same H.out (Nat.le_refl _) b2'.out E
 ·have hr:∃ r,r≠0/\(askR S n fun d=>if d.kind=1 then (0:Int) else 14)=r/\wrErr I B S n f s=r/\wrS I B S n f s=S:=by
   cases hS:S n with
   | none=>exact⟨11,by decide,by simp[askR,hS],by simp[wrErr,askR,hS],by simp[wrS,hS]⟩
   | some d=>
     have hk:¬ d.kind=1:=fun e=>hno ⟨d,hS,e⟩;exact⟨14,by decide,by simp[askR,hS,hk],by simp[wrErr,askR,hS,hk],by simp[wrS,hS,hk]⟩
  obtain⟨r,hr0,hr1,hr2,hr3⟩:=hr;rw[hr2,hr3];rw[hr1] at cA;have cA:=Wd cA;have H:=Wd h;clear h hr1 hr2 hr3 hno;go_enter func69,ntmps69
  go_wp2_with fail
  refine cA.out.mono ?_;rintro e w1 ⟨rfl,b1⟩;go_wp2_with fail
  go_ret
  exact Out.same H.out (Nat.le_refl _) b1 r
theorem Trunc_any (n s:Int)(w:World)(h:PS base w sg mb M I L B k S)(hn:IS.I64 n)(hs:I64 s) :
 Calls prog 70 #[.pointer (some ⟨sg,0,none⟩),.int .i64 n,.int .i64 s] w (Out base sg mb I L B k w (tErr S n s) (tS S n s)):=by
 have hmf:∀ (fn:Fn) (first cap:Array Value) (w:World),(Instr.makeFunc fn first cap).run prog w=.ok (.func fn first cap) w:=fun _ _ _ _=>rfl;have cA:=ask_file n h.pm hn
 by_cases hno:∃ d,S n=some d/\d.kind=1
 ·obtain⟨d,hS,hk⟩:=hno;have hr:(askR S n fun d=>if d.kind=1 then (0:Int) else 14)=0:=by simp[askR,hS,hk]
  rw[hr] at cA;have cA:=Wd cA;have H:=Wd h;have hg:=h.fn.good n d hS;have hlow:=Wd h.low;have hSS:tErr S n s=if s<0 then 2 else if 1048576<s then 28 else 0:=by unfold tErr askR;rw[hS];simp[hk]
  have hSt:tS S n s=if 0<=s/\s<=1048576 then upd S n (some (tNd d s)) else S:=by unfold tS;rw[hS];simp[hk]
  replace hS:=Wd hS;replace hSS:=Wd hSS;replace hSt:=Wd hSt;have hG:=Wd hg;have hwg:=Wd (fun h0 h1=>t_good (s:=s) hg hk h0 h1);clear h hr hg
  by_cases hs0:s<0
  ·have e1:Hid (tErr S n s=2):=Wd (by rw[hSS.out,if_pos hs0]);have e2:Hid (tS S n s=S):=Wd (by rw[hSt.out,if_neg (by omega)]);go_enter func70,ntmps70
   go_wp2_with fail
   refine cA.out.mono ?_;rintro e w1 ⟨rfl,b1⟩;go_wp2_with fail
   go_ret
   rw[e1.out,e2.out];exact Out.same H.out (Nat.le_refl _) b1 2
  ·by_cases hs1:1048576<s
   ·have e1:Hid (tErr S n s=28):=Wd (by rw[hSS.out,if_neg hs0,if_pos hs1]);have e2:Hid (tS S n s=S):=Wd (by rw[hSt.out,if_neg (by omega)]);go_enter func70,ntmps70
    go_wp2_with fail
    refine cA.out.mono ?_;rintro e w1 ⟨rfl,b1⟩;go_wp2_with fail
    go_ret
    rw[e1.out,e2.out];exact Out.same H.out (Nat.le_refl _) b1 28
   ·have e1:Hid (tErr S n s=0):=Wd (by rw[hSS.out,if_neg hs0,if_neg hs1]);have e2:Hid (tS S n s=upd S n (some (tNd d s))):=Wd (by rw[hSt.out,if_pos (by omega)]);obtain⟨hGw,hL2,hok2⟩:=hwg.out (by omega) (by omega);go_enter func70,ntmps70
    go_wp2_with fail
    refine cA.out.mono ?_;rintro e w1 ⟨rfl,b1⟩;have h1:=H.out.keep b1;have c0:=h1.pm.box.cell (j:=0) rfl;have hlk:=h1.pm.mp.look n hn;obtain⟨g,v,hM,hN,hge,hgs,hgm⟩:=h1.pm.has hS.out;rw[hM] at hlk;simp only[IS.ptr] at hlk;obtain⟨ao,nn,cc,rfl,hx1,-⟩:=hN.2;have d4:=hN.1.cell (j:=4) rfl;have cW:=Cut_any ao nn cc d.l s w1 hx1 (ok_fit (Int.le_refl _) hG.out.ok) hs;rw[hL2] at cW;have hb1:=Wd b1;have cW:=Wd cW;have hM:=Wd hM;have hN:=Wd hN;have h1:=Wd h1;clear b1 hx1 hL2;go_wp2_with fail
    refine cW.out.mono ?_;rintro e w2 ⟨v2,rfl,ho2,b2⟩;have b2':=Wd (hb1.out.trans (b2.mono hb1.out.size));have hX2:=XE.own ho2;have h2:=h1.out.keep b2;have hN2:NB w2 g d (.slice ao nn cc):=⟨hN.out.1.keep b2,hN.out.2.keep b2⟩;have htot:=h2.fn.tot;have hlim:=h2.lim;have hcp:=cnt_part 0 s d.l;have hle:Hid ((EM.cnt (EM.part 0 s d.l):Int)-(EM.cnt d.l:Int)<=(B:Int)-(tot S I:Int)):=Wd (by omega);have cR:=Wd (replace_any n g d _ v2 (EM.part 0 s d.l) w2 h2.pm hM.out hS.out hN2 hX2 hG.out.ok hok2 ⟨by omega,by omega⟩);obtain⟨ao2,nn2,cc2,rfl,-,-⟩:=hX2;have h2:=Wd h2;have hGw:=Wd hGw;clear ho2 b2 hN2 hok2 htot hlim cW cA hcp;go_wp2_with fail
    refine cR.out.mono ?_;rintro e w3 (⟨q1,rfl,b3⟩|⟨q1,rfl,q2,q3,q4⟩)
    ·have:=hle.out;omega
    ·obtain⟨t1,t2⟩:=turn_left (d':=tNd d s) h2.out.fn hS.out hGw.out hle.out;have K0:=Wd ((Keeps.new (T:=PT mb) b2'.out hlow.out).trans q4);have t1:=Wd t1;have hlim:=Wd h2.out.lim;have t2':(B:Int)-(tot S I:Int)-((EM.cnt (EM.part 0 s d.l):Int)-(EM.cnt d.l:Int))=(B:Int)-(tot (upd S n (some (tNd d s))) I:Int):=t2;rw[t2'] at q2;have f3:=q3.1.fz;have d3:=q3.1.cell (j:=3) rfl;obtain⟨r1,r2,r3⟩:=q2.setNode (n:=n) (d':=tNd d s) (v':=.slice ao2 nn2 cc2) hM.out (upd_at _ _ _) q3.1 q3.2 3 (.int .i64 s) rfl;rw[upd_upd] at r1;replace r1:=Wd r1;have K1:=Wd (K0.out.trans r3);clear q1 cR t2 t2' q4 h2 h1 q2 q3 r2 r3;go_wp2_with fail
     go_ret
     rw[e1.out,e2.out];exact⟨rfl,⟨M,r1.out,t1.out,hlim.out⟩,K1.out⟩
 ·have hr:∃ r,r≠0/\(askR S n fun d=>if d.kind=1 then (0:Int) else 14)=r/\tErr S n s=r/\tS S n s=S:=by
   cases hS:S n with
   | none=>exact⟨11,by decide,by simp[askR,hS],by simp[tErr,askR,hS],by simp[tS,hS]⟩
   | some d=>
     have hk:¬ d.kind=1:=fun e=>hno ⟨d,hS,e⟩;exact⟨14,by decide,by simp[askR,hS,hk],by simp[tErr,askR,hS,hk],by simp[tS,hS,hk]⟩
  obtain⟨r,hr0,hr1,hr2,hr3⟩:=hr;rw[hr2,hr3];rw[hr1] at cA;have cA:=Wd cA;have H:=Wd h;clear h hr1 hr2 hr3 hno;go_enter func70,ntmps70
  go_wp2_with fail
  refine cA.out.mono ?_;rintro e w1 ⟨rfl,b1⟩;go_wp2_with fail
  go_ret
  exact Out.same H.out (Nat.le_refl _) b1 r
end
end IN
end Go.Proofs.YtfffibepcdlldaaGreat
