/- slices.Sorted of a map's numbers, also of none; contract of package inode's All. -/
import Derived.Test.YtfffibepcdlldaaGreatZA02
import Derived.Maps.AppendAt
import Derived.Laws.OwnMore
import Derived.Laws.AppendOwnNone
import Derived.Test.YtfffibepcdlldaaGreatZA08
import Derived.Test.YtfffibepcdlldaaGreatZA09
set_option linter.unusedVariables false
set_option linter.unusedSimpArgs false
set_option maxRecDepth 100000
set_option maxHeartbeats 64000000
open Go.Proofs.Tryz

namespace Go.Proofs.YtfffibepcdlldaaGreat
open Go.ChangeShapes Go.WideShapes Go.ChangeAt Go.RowKit
namespace Own
def Src (w:World)(size:Nat)(u:Value)(m:Nat)(ys:List Value):Prop:=
 (u=.slice none 0 0/\m=0/\ys=[])∨∃ ad c,u=.slice (some ad) m c/\ys.length=m*size/\∀ j v,ys[j]? = some v->w.cell? (ad.add j)=some v
theorem Src.keep {w w':World}{size m:Nat}{u:Value}{ys:List Value}(h:Src w size u m ys)(hb:Below w.heap.size w w'):Src w' size u m ys:=by
 rcases h with h|⟨ad,c,h1,h2,h3⟩
 ·exact .inl h
 ·exact .inr ⟨ad,c,h1,h2,fun j v hj=>by rw[hb.cell (World.block_lt_of_cell? w _ (h3 j v hj))];exact h3 j v hj⟩
theorem Src.grown {w w':World}{size m:Nat}{u:Value}{ys:List Value}{row:Option Nat}(h:Src w size u m ys)(hg:w.grownBy w' row)(hr:∀ ad n c,u=.slice (some ad) n c->0<n->some ad.block≠row):Src w' size u m ys:=by
 rcases h with h|⟨ad,c,h1,h2,h3⟩
 ·exact .inl h
 ·refine .inr ⟨ad,c,h1,h2,fun j v hj=>?_⟩;have hm:0<m:=by
   rcases Nat.eq_zero_or_pos m with h0|h0
   ·subst h0;rw[Nat.zero_mul] at h2;rw[List.eq_nil_of_length_eq_zero h2] at hj
    cases hj
   ·exact h0
  refine cellg hg (h3 j v hj) ?_;have e:(ad.add j).block=ad.block:=by unfold Addr.add;split <;> rfl
  rw[e];exact hr ad m c h1 hm
def Info (P:Program)(e:TypeId)(z:Value)(size bytes:Nat):Prop:=∃ i,P.info? e=some i/\i.zero=some z/\i.size=size/\i.bytes=bytes/\z.cells.size=size/\0<size
theorem info_of {P:Program}{e:TypeId}{z:Value}{size bytes:Nat}(h:(P.info? e).map (fun i=>(i.zero,i.size,i.bytes))=some (some z,size,bytes))(h2:z.cells.size=size)(h3:0<size):Info P e z size bytes:=by
 cases hi:P.info? e with
 | none=>rw[hi] at h;cases h
 | some i=>
   rw[hi] at h;simp only[Option.map_some,Option.some.injEq,Prod.mk.injEq] at h;exact⟨i,hi,h.1,h.2.1,h.2.2,h2,h3⟩
theorem run_app {P:Program} {w:World} {t ty e:TypeId} {z:Value} {size bytes:Nat} (ht:P.underlying t=some (.slice e)) (hinf:Info P e z size bytes) {base n m:Nat} {v u:Value} {xs ys:List Value}
 (hown:w.ownsRow base e size v n xs) (hbase:base<=w.heap.size) (hs:Src w size u m ys) (h1:∀ u∈ys,u.oneCell'=true) (h63:n+m<=maxLen) (hb:(n+m)*bytes<=140737488355328) :
 ∃ v' w',(Builtin.append_ #[t,t] ty #[v,u]).run P w=.ok v' w'/\w'.ownsRow base e size v' (n+m) (xs ++ ys)/\w.grownBy w' v.ownBlock/\(v'.ownBlock=v.ownBlock∨v'.ownBlock=some w.heap.size):=by
 obtain⟨i,hi,hz,hsize,hby,hzs,hsz⟩:=hinf;rcases hs with ⟨rfl,rfl,rfl⟩|⟨ad,c,rfl,hl,hc⟩
 ·refine⟨v,w,run_append_owned_none (P:=P) (w:=w) base t ty e i size ht hi v n xs hown,?_,World.grownBy.refl w _,.inl rfl⟩;simpa using hown
 ·obtain⟨v',w',h1,h2,h3,-,h5⟩:=run_append_own_at (P:=P) w base t ty e i z size bytes ht hi hz hsize hby hzs hsz v n xs hown ad m c ys hl hc h1 h63 hb hbase;exact⟨v',w',h1,h2,h3,h5⟩
theorem step_app {P:Program} {ops:Array Oper} {o:Oper} {a:Act} {w:World} {K:Act->World->Prop} {Q:Exit->Act->World->Prop} {E:Prop}
 (hg:o.guard=none) (s x:Operand) (t:TypeId) (hop:o.op=Op.call { callee:=Callee.builtin Builtin.append,args:=#[s,x],argTypes:=#[t,t] })
 {e:TypeId} {z:Value} {size bytes:Nat} (ht:P.underlying t=some (.slice e)) (hinf:Info P e z size bytes) {base n m:Nat} (v u:Value) {xs ys:List Value} (hs:a.eval s=v) (hx:a.eval x=u)
 (hown:w.ownsRow base e size v n xs) (hbase:base<=w.heap.size) (hsrc:Src w size u m ys) (h1:∀ u∈ys,u.oneCell'=true) (h63:n+m<=maxLen) (hb:(n+m)*bytes<=140737488355328)
 (hK:∀ v' w',w'.ownsRow base e size v' (n+m) (xs ++ ys)->w.grownBy w' v.ownBlock->(v'.ownBlock=v.ownBlock∨v'.ownBlock=some w.heap.size)->K (a.put o.dst v') w') :
 if Region.wanted o (yielded ops a.tmps)=true then Oper.wp P o a w K Q else E:=by
 have hw:Region.wanted o (yielded ops a.tmps)=true:=by simp[Region.wanted,hg]
 rw[if_pos hw];obtain⟨v',w',hrun,r1,r2,r3⟩:=run_app (ty:=o.type) ht hinf hown hbase hsrc h1 h63 hb;unfold Oper.wp;simp[execOp,hop,resolve,invoke,builtin,hs,hx,hrun,Result.andThen];exact hK v' w' r1 r2 r3
theorem wpList_app {P:Program} {ops:Array Oper} {rest:List Oper} {o:Oper} {a:Act} {w:World} {Q:Exit->Act->World->Prop} (hgd:o.guard=none) (s x:Operand) (t:TypeId)
 (hop:o.op=Op.call { callee:=Callee.builtin Builtin.append,args:=#[s,x],argTypes:=#[t,t] })
 {e:TypeId} {z:Value} {size bytes:Nat} (ht:P.underlying t=some (.slice e)) (hinf:Info P e z size bytes) {base n m:Nat} (v u:Value) {xs ys:List Value} (hs:a.eval s=v) (hx:a.eval x=u)
 (hown:w.ownsRow base e size v n xs) (hbase:base<=w.heap.size) (hsrc:Src w size u m ys) (h1:∀ u∈ys,u.oneCell'=true) (h63:n+m<=maxLen) (hb:(n+m)*bytes<=140737488355328)
 (hK:∀ v' w',w'.ownsRow base e size v' (n+m) (xs ++ ys)->w.grownBy w' v.ownBlock->(v'.ownBlock=v.ownBlock∨v'.ownBlock=some w.heap.size)->wpList P ops Q rest (a.put o.dst v') w'):wpList P ops Q (o :: rest) a w:=by
 refine wpList_plain hgd fun K' hK'=>?_;obtain⟨v',w',hrun,r1,r2,r3⟩:=run_app (ty:=o.type) ht hinf hown hbase hsrc h1 h63 hb;unfold Oper.wp;simp[execOp,hop,resolve,invoke,builtin,hs,hx,hrun,Result.andThen];exact hK' _ _ (hK v' w' r1 r2 r3)
theorem make_room {P:Program}{t e:TypeId}{z:Value}{size bytes:Nat}(ht:P.underlying t=some (.slice e))(hinf:Info P e z size bytes)(m:Nat)(zz:Int)(hzm:zz=m)(h:m*bytes<=140737488355328)(h2:m<=140737488355328) :
 ∃ X:Obj,(∀ W:World,(Instr.makeSlice t (.int .i64 0) (.int .i64 zz)).run P W=.ok (.slice (some ⟨W.heap.size,0,none⟩) 0 m) (W.alloc X)) /\
 ∀ (W:World) (base:Nat),base<=W.heap.size->(W.alloc X).ownsRow base e size (.slice (some ⟨W.heap.size,0,none⟩) 0 m) 0 []:=by
 subst hzm;obtain⟨i0,hi,hz0,hz1,hz2,hzs,hsz⟩:=hinf;refine⟨_,fun W=>?_,fun W base hb=>World.ownsRow_made (size:=size) W _ m hb (by unfold maxLen;omega) (size_madeCells z.cells (m*size))⟩;have hr:=run_make (P:=P) W t e i0 z ht hi hz0 .i64 .i64 0 (m:Int) (Int.le_refl _) (by omega) (by rw[hz2,Int.mul_comm,<-Int.natCast_mul];omega) (by omega);simp only[Int.toNat_zero,Int.toNat_natCast,hz1] at hr;exact hr
end Own
namespace IS
theorem Sorted_nums (Bm b:Nat)(M:Int->Option Nat)(w:World)(hBm:Bm<w.heap.size)(hb:b<w.heap.size)(hm:w.cell? ⟨Bm,0,none⟩=some (.map (some b)))(hMB:MB w b M)(ks:List Nat)(hk:Nums M ks)(hr:ks.Pairwise (· < ·))(hlen:ks.length<65536) :
 Calls prog 54 #[.func (.func 104) #[] #[.pointer (some ⟨Bm,0,none⟩)]] w fun e w'=>∃ v,e=.returned v/\LC w.heap.size w' v ks/\Below w.heap.size w w':=
 Sorted_of _ M w (Collect_any Bm b M w hBm hb hm hMB) ks hk hr hlen
end IS
namespace IN
def stcl (l:List (Nat×Nd)):List Value:=l.flatMap fun x=>stl (x.1:Int) x.2
theorem stcl_len (l:List (Nat×Nd)):(stcl l).length=l.length*6:=by
 induction l with
 | nil=>rfl
 | cons x r ih=>simp only[stcl,List.flatMap_cons,List.length_append,List.length_cons] at ih ⊢;rw[ih];simp[stl];omega
theorem stcl_app (a b:List (Nat×Nd)):stcl (a ++ b)=stcl a ++ stcl b:=List.flatMap_append
theorem stcl_one (x:Nat×Nd):stcl [x]=stl (x.1:Int) x.2:=by simp[stcl]
theorem info_stat:Own.Info prog 65 (.agg zl.toArray) 6 48:=Own.info_of (by kernel_rfl) rfl (by decide)
theorem stl_cells (w:World)(n:Int)(d:Nd)(g:Nat)(hB:Blk w g 65 (stl n d)):Own.Src w 6 (.slice (some ⟨g,0,none⟩) 1 1) 1 (stl n d):=
 .inr ⟨_,_,rfl,by simp[stl],fun j v hj=>by
  have:=hB.cell hj;rw[Addr.add_lit,Nat.zero_add];exact this⟩
theorem stl_one (n:Int)(d:Nd):∀ u∈stl n d,u.oneCell'=true:=by
 intro u hu;simp only[stl,List.mem_cons,List.not_mem_nil,or_false] at hu;rcases hu with rfl|rfl|rfl|rfl|rfl|rfl <;> rfl
section
variable {base sg mb I L B k:Nat}{M:Int->Option Nat}{S:Int->Option Nd}
theorem ask_one {w:World}{I L left:Int}(h:PM base w sg mb M I L left S) :
 Calls prog 52 #[.int .i64 0,.slice (some ⟨w.heap.size,0,none⟩) 1 1] (w.alloc (.cells #[.func (.func 53) #[.pointer (some ⟨sg,0,none⟩)] #[]] 42)) fun e w'=>e=.returned (.int .i64 0)/\Below w.heap.size w w':=by
 have hal:=(Below.refl w.heap.size w).alloc (Nat.le_refl _) (.cells #[.func (.func 53) #[.pointer (some ⟨sg,0,none⟩)] #[]] 42);refine (first_one (.pointer (some ⟨sg,0,none⟩)) _ 0 0 w.heap.size _ (chk_blk w [.func (.func 53) #[.pointer (some ⟨sg,0,none⟩)] #[]] _ rfl)
  (fun w=>by kernel_rfl) (fun W hW=>made_some _ W (h.keep (hal.trans (hW.mono hal.size))))).mono ?_
 rintro e w' ⟨rfl,hb⟩;exact⟨rfl,hal.trans (hb.mono hal.size)⟩
theorem All_any (w:World)(h:PS base w sg mb M I L B k S) :
 Calls prog 19 #[.pointer (some ⟨sg,0,none⟩)] w fun e w'=>∃ v,e=.returned v/\w'.ownsRow w.heap.size 65 6 v (lst S I).length (stcl (lst S I))/\Below w.heap.size w w':=by
 have hmf:∀ (fn:Fn) (first cap:Array Value) (w:World),(Instr.makeFunc fn first cap).run prog w=.ok (.func fn first cap) w:=fun _ _ _ _=>rfl;have cA:=Wd (ask_one h.pm);have hlen:=lst_len S I;have hI:=h.lim.1;have hN:=Wd h.nums;have hrise:=Wd (ks_rise S I);have hkl:=Wd (ks_len S I);have hgood:=Wd h.fn;have hmem:Hid (∀ j (hj:j<(lst S I).length),1<=(lst S I)[j].1/\(lst S I)[j].1<=I/\S ((lst S I)[j].1:Int)=some (lst S I)[j].2):=Wd (fun j hj=>mem_lst.1 (List.getElem_mem hj));have hkat:Hid (∀ j (hj:j<(ks S I).length) (hj2:j<(lst S I).length),(ks S I)[j]=(lst S I)[j].1):=Wd (fun j hj hj2=>by simp[ks]);have H:=Wd h;obtain⟨Ls,hLs⟩:∃ Ls,lst S I=Ls:=⟨_,rfl⟩;rw[hLs] at hlen hkl hmem hkat ⊢;obtain⟨Ks,hKs⟩:∃ Ks,ks S I=Ks:=⟨_,rfl⟩;rw[hKs] at hN hrise hkl hkat;obtain⟨N,hNN⟩:∃ N,Ls.length=N:=⟨_,rfl⟩;rw[hNN] at hlen hkl ⊢;obtain⟨X,hmk,hmo⟩:=Own.make_room (t:=48) underlying48 info_stat N (N:Int) rfl (by omega) (by omega);replace hmo:=Wd hmo;replace hNN:=Wd hNN;clear h hLs hKs;go_enter func19,ntmps19
 go_wp2_with fail
 refine cA.out.mono ?_;rintro e w1 ⟨rfl,b1⟩;have h1:=H.out.keep b1;have c0:=h1.pm.box.cell (j:=0) rfl;have hcnt:∀ ty,(Builtin.len_ #[78] ty #[.map (some mb)]).run prog w1=.ok (.int .i64 (N:Int)) w1:=fun ty=>by have:=h1.pm.mp.count hN.out ty;rw[hkl.out] at this;exact this
 have hown0:=Wd (hmo.out w1 w1.heap.size (Nat.le_refl _));have b2:=b1.alloc b1.size X;obtain⟨w2,hw2⟩:∃ w2,w1.alloc X=w2:=⟨_,rfl⟩;rw[hw2] at hown0 b2;have hs2:w2.heap.size=w1.heap.size+1:=by rw[<-hw2];simp
 have h2:=H.out.keep b2;have d0:=h2.pm.box.cell (j:=0) rfl;have hbox:=(Blk.new w2 78 [.map (some mb)] rfl).cell (j:=0) rfl;have b3:=b2.alloc b2.size (.cells #[.map (some mb)] 78);have cK:=Wd (IS.Keys_any mb w2);have cS:=Wd (IS.Sorted_nums w2.heap.size mb M (w2.alloc (.cells #[.map (some mb)] 78)) (by simp) (by have:=h2.pm.mp.lt;simp;omega) hbox (h2.pm.mp.alloc _) Ks hN.out hrise.out (by rw[hkl.out];omega));have hs1:=b1.size;have b1:=Wd b1;have b3:=Wd b3;replace hs2:=Wd hs2;clear cA hbox h1 h2 b2 hmo hN hrise;go_wp2_with fail
 refine cK.out.mono ?_;rintro e w3 ⟨rfl,rfl⟩;go_wp2_with fail
 refine cS.out.mono ?_;rintro e w4 ⟨v4,rfl,⟨ao,cap,rfl,hcell⟩,b4⟩;rw[hkl.out];have b5:=Wd (b3.out.trans (b4.mono b3.out.size));have hown4:Hid (w4.ownsRow w1.heap.size 65 6 (.slice (some ⟨w1.heap.size,0,none⟩) 0 N) 0 []):=Wd (Own.below (Own.below hown0.out ((Below.refl _ w2).alloc (Nat.le_refl _) _)) b4);have hcell:Hid (∀ i (hi:i<N),∃ blk off,ao=some ⟨blk,off,none⟩/\w1.heap.size<blk/\blk<w4.heap.size/\w4.cell? ⟨blk,off+i,none⟩=some (.int .i64 ((Ls[i]'(by rw[hNN.out];exact hi)).1:Int))):=Wd (fun i hi=>by
  obtain⟨blk,off,h1,h0,h2,h3⟩:=hcell i (by rw[hkl.out];exact hi);rw[hkat.out i _ (by rw[hNN.out];exact hi)] at h3;exact⟨blk,off,h1,by have:=hs2.out;simp at h0;omega,h2,h3⟩)
 have hsw:=hs1;have hsz4:w1.heap.size<=w4.heap.size:=by have:=b4.size;have:=hs2.out;simp at *;omega
 clear hown0 b4 b3 cS cK hkat hkl d0 c0;replace hw2:=Wd hw2;go_wp2_with fail
 go_loopw [24,3] (fun i v wr=>∃ (j:Nat),j<=N/\i=.int .i64 (j:Int)/\Hid (wr.ownsRow w1.heap.size 65 6 v j (stcl (Ls.take j)))/\Hid (v.ownBlock=some w1.heap.size∨∃ g,w4.heap.size<=g/\v.ownBlock=some g)/\Hid (Two w1.heap.size w1.heap.size w4 wr)) (fun i _ _=>N-(intOf i).toNat)
 case atStart=>exact⟨0,Nat.zero_le _,rfl,hown4,Wd (.inl rfl),Wd (Two.refl _ _ _)⟩
 case round=>
  obtain⟨j,hj,rfl,hown,hob,hT⟩:=hrel;have belr:=Wd (b5.out.trans (hT.out.below (B:=w.heap.size) (by omega) hsw hsw))
  by_cases hlt:j<N
  ·obtain⟨blk,off,rfl,hb1,hb2,hc⟩:=hcell.out j hlt;have hm:=hmem.out j (by rw[hNN.out];exact hlt);have htake:=EM.take_snoc Ls j (by rw[hNN.out];exact hlt);obtain⟨⟨nj,dj⟩,hx⟩:∃ x,Ls[j]'(by rw[hNN.out];exact hlt)=x:=⟨_,rfl⟩;rw[hx] at hc hm htake;simp only at hc hm;have hc':wr.cell? ⟨blk,off+j,none⟩=some (.int .i64 (nj:Int)):=by
    rw[World.cell?_of_block (w:=w4) (w':=wr) (a:=⟨blk,off+j,none⟩) (hT.out.block blk hb2 (by omega) (by omega))];exact hc
   have cT:=stat_any (nj:Int) dj wr (H.out.keep belr.out).pm ⟨by omega,by omega⟩ hm.2.2 (hgood.out.good _ _ hm.2.2).ok;simp only[stl] at cT;replace cT:=Wd cT;replace htake:=Wd htake;have hsr:=hT.out.size;clear hx hc hm;go_wp2_with fail
   refine cT.out.mono ?_;rintro e w5 ⟨rfl,b6⟩;have hsrc:=stl_cells (w5.alloc (.cells #[.int .i64 (nj:Int),.int .i64 dj.kind,.int .i64 dj.links,.int .i64 dj.opens,.int .i64 dj.size,.int .i64 (EM.cnt dj.l:Int)] 65)) (nj:Int) dj w5.heap.size (Blk.new w5 65 (stl (nj:Int) dj) rfl);have b7:=b6.alloc b6.size (.cells #[.int .i64 (nj:Int),.int .i64 dj.kind,.int .i64 dj.links,.int .i64 dj.opens,.int .i64 dj.size,.int .i64 (EM.cnt dj.l:Int)] 65);have hown7:=Wd (Own.below hown.out b7);have hT7:=Wd (hT.out.trans (Two.of b7));have hs7:=b7.size;have hsrc:=Wd hsrc;clear b6 b7 cT hc';go_wp2_with (first
    | (at_builtin;refine Own.wpList_app rfl (.tmp 28) (.tmp 32) 48 rfl underlying48 info_stat u3 (.slice (some ⟨w5.heap.size,0,none⟩) 1 1) rfl rfl hown7.out (by omega) hsrc.out (stl_one _ _) (by unfold maxLen;omega) (by omega) ?_;intro v' w8 ho8 hg8 hb8))
   have hown8:Hid (w8.ownsRow w1.heap.size 65 6 v' (j+1) (stcl (Ls.take (j+1)))):=Wd (by rw[htake.out,stcl_app,stcl_one];exact ho8);have hob8:Hid (v'.ownBlock=some w1.heap.size∨∃ g,w4.heap.size<=g/\v'.ownBlock=some g):=Wd (by
    rcases hb8 with e|e
    ·rw[e];exact hob.out
    ·exact .inr ⟨_,by omega,e⟩)
   have hT8:Hid (Two w1.heap.size w1.heap.size w4 w8):=Wd ⟨hg8.os.trans hT7.out.os,hg8.tape.trans hT7.out.tape,hg8.output.trans hT7.out.output,Nat.le_trans hT7.out.size hg8.size,fun k hk h1 h2=>by
    rw[hg8.block k (by omega) (fun e=>by
     rcases hob.out with e2|⟨g,hg,e2⟩
     ·rw[e2] at e;cases e;exact h1 rfl
     ·rw[e2] at e;cases e;omega)]
    exact hT7.out.block k hk h1 h2⟩
   clear ho8 hg8 hb8 hown7 hT7 hsrc;go_wp2_with fail
   go_roundw
   case rel=>exact⟨j+1,by omega,by go_num,hown8,hob8,hT8⟩
   case measure=>simp[intOf];omega
  ·obtain rfl:j=N:=by omega
   have hfin:=hown.out;rw[List.take_of_length_le (Nat.le_of_eq hNN.out)] at hfin;have hfin:=Wd (Own.low (base':=w.heap.size) hsw hfin);go_wp2_with fail
   go_ret
   exact⟨_,rfl,hfin.out,belr.out⟩
end
end IN
end Go.Proofs.YtfffibepcdlldaaGreat
