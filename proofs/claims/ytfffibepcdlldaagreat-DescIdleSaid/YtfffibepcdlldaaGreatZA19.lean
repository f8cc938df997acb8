/- A part. -/
import Derived.Test.YtfffibepcdlldaaGreatZR01
import Derived.Test.YtfffibepcdlldaaGreatZA01
import Derived.Test.YtfffibepcdlldaaGreatZA17
import Derived.Test.YtfffibepcdlldaaGreatZR01
import Derived.Deep.RegionHeld3
import Derived.StillTail
import Derived.WalkKit
import Derived.ProofKit
set_option linter.unusedVariables false
set_option linter.unusedSimpArgs false
set_option maxRecDepth 100000
set_option maxHeartbeats 64000000
open Go.Proofs.Tryz

namespace Go.Proofs.YtfffibepcdlldaaGreat
open Go.ChangeShapes Go.WideShapes Go.ChangeAt Go.RowKit
namespace IN
section
variable {base:Nat}{rg:Nat}{I B L k:Nat}{S:Int->Option Nd}{z3 z4 z5 z6:Int}{v:Value}{q:List RE}
theorem rAll_any (w:World)(hf:Fine I L B k S)(hI:I<=4096)(h:RS base w rg I B L (lst S I)) :
 Calls prog 20 #[.pointer (some ⟨rg,0,none⟩)] w fun e w'=>∃ v,e=.returned v/\w'.ownsRow w.heap.size 65 6 v (lst S I).length (stcl (lst S I))/\Below w.heap.size w w':=by
 obtain⟨z3,z4,z5,z6,v,q,hM,hF⟩:=h;have hlen:=hF.len;have hls:=lst_len S I;obtain⟨ao,cap,hv⟩:=Own.form hM.row;subst hv;have hE:=Wd (fun i (hi:i<q.length)=>hM.opened hi);have hEF:=Wd (fun i (hi:i<q.length) (hl:i<(lst S I).length)=>hF.at_ i hi hl);have hbox:=hM.box;obtain⟨Ls,hLs⟩:∃ Ls,lst S I=Ls:=⟨_,rfl⟩;rw[hLs] at hlen hls hEF ⊢;obtain⟨N,hN⟩:∃ N,Ls.length=N:=⟨_,rfl⟩;rw[hN] at hlen hls ⊢;have c7:=hbox.cell (j:=7) rfl;rw[hlen] at c7;have hrl:=hbox.lt;replace hN:=Wd hN;replace hlen:=Wd hlen;replace hbox:=Wd hbox;clear hM hF hLs;go_enter func20,ntmps20
 go_wp2_with fail
 go_loopw [3,4] (fun v i wr=>∃ (j:Nat),j<=N/\i=.int .i64 (j:Int)/\Hid (wr.ownsRow w.heap.size 65 6 v j (stcl (Ls.take j)))/\Hid (Below w.heap.size w wr)) (fun _ i _=>N-(intOf i).toNat)
 case atStart=>exact⟨0,Nat.zero_le _,rfl,Wd (World.ownsRow_nil _ _ _ _),Wd (Below.refl _ _)⟩
 case round=>
  obtain⟨j,hj,rfl,hown,hbel⟩:=hrel;have c7':=cellkept hbel.out c7
  by_cases hlt:j<N
  ·have hjq:j<q.length:=by rw[hlen.out];exact hlt
   have hjl:j<Ls.length:=by rw[hN.out];exact hlt
   obtain⟨g,N',cap',hv,hN',hpN,-,-,-,-,hgl,-,-,-,-,-,-,-,x0,x1,x2,x3,x4,x5,-⟩:=hE.out j hjq;have hef:=hEF.out j hjq hjl;rw[hlen.out] at hv;simp only[Value.slice.injEq] at hv;obtain⟨rfl,rfl,rfl⟩:=hv;obtain⟨⟨nj,dj⟩,hx⟩:∃ x,Ls[j]=x:=⟨_,rfl⟩;have htake:=Wd (EM.take_snoc Ls j hjl);rw[hx] at htake hef;rw[hef.n] at x0;rw[hef.kd] at x1;rw[hef.lk] at x2;rw[hef.op] at x3;rw[hef.sz] at x4;rw[hef.st] at x5;simp only at x0 x1 x2 x3 x4 x5;have hR:=Wd (range_six (cellkept hbel.out x0) (cellkept hbel.out x1) (cellkept hbel.out x2) (cellkept hbel.out x3) (cellkept hbel.out x4) (cellkept hbel.out x5));have hsrc:=Wd (stl_cells (wr.alloc (.cells #[.int .i64 (nj:Int),.int .i64 dj.kind,.int .i64 dj.links,.int .i64 dj.opens,.int .i64 dj.size,.int .i64 (EM.cnt dj.l:Int)] 65)) (nj:Int) dj wr.heap.size (Blk.new wr 65 (stl (nj:Int) dj) rfl));have hb7:=Wd (hbel.out.alloc hbel.out.size (.cells #[.int .i64 (nj:Int),.int .i64 dj.kind,.int .i64 dj.links,.int .i64 dj.opens,.int .i64 dj.size,.int .i64 (EM.cnt dj.l:Int)] 65));have hown7:=Wd (Own.below hown.out ((Below.refl wr.heap.size wr).alloc (Nat.le_refl _) (.cells #[.int .i64 (nj:Int),.int .i64 dj.kind,.int .i64 dj.links,.int .i64 dj.opens,.int .i64 dj.size,.int .i64 (EM.cnt dj.l:Int)] 65)));obtain⟨ao3,c3,hv3⟩:=Own.form hown.out;clear hN' hx hef x0 x1 x2 x3 x4 x5 hjq hjl;subst hv3
   go_wp2_with (first
    | (refine wpList_load_mid rfl 65 (.tmp 21) rfl g (j*7) rfl [.int .i64 (nj:Int),.int .i64 dj.kind,.int .i64 dj.links,.int .i64 dj.opens,.int .i64 dj.size,.int .i64 (EM.cnt dj.l:Int)] _ hR.out underlying65 rfl (by kernel_rfl) ?_)
    | (at_builtin;refine Own.wpList_app rfl (.tmp 14) (.tmp 23) 48 rfl underlying48 info_stat (.slice ao3 j c3) (.slice (some ⟨wr.heap.size,0,none⟩) 1 1) rfl rfl hown7.out hb7.out.size hsrc.out (stl_one _ _) (by unfold maxLen;omega) (by omega) ?_;intro v' w8 ho8 hg8 hob8;have hb8:=Wd (hb7.out.grown hg8 hb7.out.size (fun k h=>Own.ge hown7.out k h));have ho8:=Wd ho8;clear hg8 hob8))
   have hown8:Hid (w8.ownsRow w.heap.size 65 6 v' (j+1) (stcl (Ls.take (j+1)))):=Wd (by rw[htake.out,stcl_app,stcl_one];exact ho8.out);go_roundw
   case rel=>exact⟨j+1,by omega,by go_num,hown8,hb8⟩
   case measure=>simp[intOf];omega
  ·obtain rfl:j=N:=by omega
   have hfin:=hown.out;rw[List.take_of_length_le (Nat.le_of_eq hN.out)] at hfin;have hfin:=Wd hfin;go_wp2_with fail
   go_ret
   exact⟨_,rfl,hfin.out,hbel.out⟩
theorem rRead_yes (n f m:Int)(d:Nd)(w:World)(hf:Fine I L B k S)(hI:I<=4096)(h:RS base w rg I B L (lst S I))(hff:I64 f)(hm:I64 m)(hS:S n=some d)(hk:d.kind=1) :
 Calls prog 87 #[.pointer (some ⟨rg,0,none⟩),.int .i64 n,.int .i64 f,.int .i64 m] w fun e w'=>e=.returned (.tuple #[.string (strOf (rdV d.l d.size f m)),.int .i64 (rdE d.l d.size f m)])/\Below w.heap.size w w':=by
 obtain⟨z3,z4,z5,z6,v,q,hM,hF⟩:=h;obtain⟨p,mm,hnm,hm1,hmI,hp,hat,hbef,hset,hdel⟩:=pl_some hf hS;have hg:=hf.good _ d hS;have hpq:p<q.length:=by rw[hF.len];exact hp
 have hE:=hF.at_ p hpq hp;rw[hat hp] at hE;have cA:=Wd (rfile_yes n w hI hM hF hp (hat hp) hnm hbef hk);obtain⟨g,N,cap,rfl,hN,hpN,hNc,hcm,hbg,hgr,hgl,hrl,hgf,hrf,c0,c1,c2,c7,x0,x1,x2,x3,x4,x5,x6⟩:=hM.opened hpq;rw[hE.sz] at x4;simp only at x4;obtain⟨ao,nn,cc,hv,hx1,-⟩:=hE.v;rw[hv] at x6;have cR:=Wd (rRead_any ao nn cc d.l d.size f m w.drew hx1 (ok_fit (Int.le_refl _) hg.ok) ⟨by have:=hg.size;omega,by have:=hg.size;omega⟩ hff hm);have h0:(0:Int)<=(p:Int):=by omega
 clear hM hF hE hN hg hat hbef hset hdel hv hx1 c0 c1 c2 x0 x1 x2 x3 x5 hnm hp hpq hgf hrf;go_enter func87,ntmps87
 go_wp2_with fail
 refine cA.out.mono ?_;rintro e w1 ⟨rfl,rfl⟩;go_wp2_with fail
 refine wp_region_held_drew (S:=(fun w'=>w'.cell? ⟨rg,7,none⟩=some (.slice (some ⟨g,0,none⟩) N cap)/\w'.cell? ⟨g,p*7+6,none⟩=some (.slice ao nn cc)/\w'.cell? ⟨g,p*7+4,none⟩=some (.int .i64 d.size))) (by kernel_rfl) ⟨c7,x6,x4⟩ (fun hHeld=>?_);refine wt (i:=0) (v:=.pointer (some ⟨rg,0,none⟩)) hHeld ?_;refine wt (i:=1) (v:=.pointer (some ⟨rg,0,none⟩)) hHeld ?_;refine wt (i:=2) (v:=.pointer (some ⟨rg,7,none⟩)) hHeld ?_;refine wt (i:=3) (v:=.slice (some ⟨g,0,none⟩) N cap) hHeld ?_;refine wt (i:=4) (v:=.int .i64 (p:Int)) hHeld ?_;refine wt (i:=5) (v:=.pointer (some ⟨g,p*7,none⟩)) hHeld ?_;refine wt (i:=6) (v:=.pointer (some ⟨g,p*7+6,none⟩)) hHeld ?_;refine wt (i:=7) (v:=.slice ao nn cc) hHeld ?_;refine wt (i:=8) (v:=.pointer (some ⟨rg,0,none⟩)) hHeld ?_;refine wt (i:=9) (v:=.pointer (some ⟨rg,0,none⟩)) hHeld ?_;refine wt (i:=10) (v:=.pointer (some ⟨rg,7,none⟩)) hHeld ?_;refine wt (i:=11) (v:=.slice (some ⟨g,0,none⟩) N cap) hHeld ?_;refine wt (i:=12) (v:=.int .i64 (p:Int)) hHeld ?_;refine wt (i:=13) (v:=.pointer (some ⟨g,p*7,none⟩)) hHeld ?_;refine wt (i:=14) (v:=.pointer (some ⟨g,p*7,none⟩)) hHeld ?_;refine wt (i:=15) (v:=.pointer (some ⟨g,p*7+4,none⟩)) hHeld ?_;refine wt (i:=16) (v:=.int .i64 d.size) hHeld ?_;refine wt (i:=17) (v:=.int .i64 f) hHeld ?_;refine wt (i:=18) (v:=.int .i64 m) hHeld ?_;refine wpAnyH_ready (rs:=[19]) (by kernel_rfl) (by simp) ?_;refine AllReadyH.cons rfl (fun K hK=>?_) AllReadyH.nil;go_simp
 refine cR.out.mono ?_;rintro e w2 ⟨rfl,hb2⟩;have y7:=cellkept (Own.bundrew hb2) c7;have y6:=cellkept (Own.bundrew hb2) x6;have y4:=cellkept (Own.bundrew hb2) x4;refine hK.out _ _ ⟨y7,y6,y4⟩ (fun hHeld1=>?_);clear hK K
 try simp only[Act.put,List.setIfInBounds_toArray,List.set_cons_zero,List.set_cons_succ,List.getElem_toArray,List.getElem_cons_zero,List.getElem_cons_succ]
 refine wt (i:=20) (v:=.string (strOf (rdV d.l d.size f m))) hHeld1 ?_;refine wt (i:=21) (v:=.int .i64 (rdE d.l d.size f m)) hHeld1 ?_;refine wt (i:=22) (v:=.string (strOf (rdV d.l d.size f m))) hHeld1 ?_;refine wt (i:=23) (v:=.int .i64 (rdE d.l d.size f m)) hHeld1 ?_;refine wpAnyH_done (by kernel_rfl) ?_ _;go_wp2_with fail
 go_ret2
 exact⟨rfl,Own.bundrew hb2⟩
end
end IN
section
variable {P:Program}{ops:Array Oper}{Q:Exit->Act->World->Prop}{md:Region.Mode}{S:World->Prop}{m:Nat}
def UpTo (P:Program)(md:Region.Mode)(ops:Array Oper)(Q:Exit->Act->World->Prop)(S:World->Prop)(m:Nat):Nat->Array Bool->Act->World->Prop
 | 0,ls,a,w=>Region.ready md ops ls=[]/\Q .normal a w
 | k+1,ls,a,w=>(Region.ready md ops ls=[]->Q .normal a w)/\∀ j∈Region.ready md ops ls,wpOp P ops Q j (fun a' w'=>(j≠m->S w')/\UpTo P md ops Q S m k (ls.setIfInBounds j true) a' w') a w
theorem UpTo.any:∀ (k:Nat) (ls:Array Bool) (a:Act) (w:World),UpTo P md ops Q S m k ls a w->wpAny P md ops Q k ls a w
 | 0,_,_,_,h=>h
 | k+1,_,_,_,h=>⟨h.1,fun j hj=>wpOp_mono (fun a' w' h'=>UpTo.any k _ a' w' h'.2) (h.2 j hj)⟩
theorem UpTo.first {i:Nat} {o:Oper} {v:Value} (hi:ops[i]? = some o) (hwait:Region.waitsFor md ops m i=true) (hne:i≠m) (hsel:∀ (j:Nat) (o:Oper) cs b,ops[j]? = some o->o.op≠.select cs b)
 (hQ:∀ c a w,Q (.panic c) (a.put o.dst v) w->Q (.panic c) a w) :
 ∀ (k:Nat) (ls:Array Bool) (a:Act) (w:World),
   (∀ j oj,ops[j]? = some oj->j≠i->ls.getD j true=false->(∀ e∈oj.after,Region.binds md e=true->e.on≠i)->o.apart ops oj=true) ->
   i∈Region.ready md ops ls->YieldsIf P ops S o v a->S w ->
   UpTo P md ops Q S m k (ls.setIfInBounds i true) (a.put o.dst v) w->UpTo P md ops Q S m (k+1) ls a w:=by
 have unl:∀ {ls:Array Bool},i∈Region.ready md ops ls->ls.getD i false=false:=fun {ls} h=>by
  have h0:=(mem_ready.1 h).1
  by_cases hlt:i<ls.size
  ·simp[hlt] at h0 ⊢;exact h0
  ·simp[Array.getElem?_eq_none (Nat.le_of_not_lt hlt)]
 intro k
 induction k with
 | zero=>
   intro ls a w _ hr hy hS H;refine⟨fun e=>(by rw[e] at hr;cases hr),fun j hj=>?_⟩
   by_cases hji:j=i
   ·subst hji;exact hy.wpOp hi hS ⟨fun _=>hS,H⟩
   ·have h1:=ready_mono hj hji;rw[H.1] at h1;cases h1
 | succ k ih=>
   intro ls a w hfr hr hy hS H;refine⟨fun e=>(by rw[e] at hr;cases hr),fun j hj=>?_⟩
   by_cases hji:j=i
   ·subst hji;exact hy.wpOp hi hS ⟨fun _=>hS,H⟩
   obtain⟨hju,oj,hoj,hall⟩:=mem_ready.1 hj;have hapart:∀ e∈oj.after,Region.binds md e=true->e.on≠i:=fun e he hb e2=>by
    have h1:=hall e he hb;rw[e2,unl hr] at h1;cases h1
   have hjm:j≠m:=by
    rintro rfl;obtain⟨o2,ho2,e,he,hb,hon⟩:=Region.waitsFor_spec hwait;obtain rfl:o2=oj:=Option.some.inj (ho2.symm.trans hoj);exact hapart e he hb hon
   have h2:=wpOp_putIf hoj (hfr j oj hoj hji hju hapart) (fun cs b=>hsel i o cs b hi) (fun cs b=>hsel j oj cs b hoj) hQ hy (H.2 j (ready_mono hj hji));refine wpOp_mono (fun a' w' h3=>⟨h3.2.1,ih (ls.setIfInBounds j true) a' w' (fun x ox hx hxi hun hno=>hfr x ox hx hxi ?_ hno) (ready_mono hr (Ne.symm hji)) h3.1 (h3.2.1 hjm) ?_⟩) h2
   ·by_cases e:j=x
    ·subst e;exact hju
    ·rw[getD_set_ne true e] at hun;exact hun
   ·rw[Array.setIfInBounds_comm _ _ hji];exact h3.2.2
theorem UpTo.take {i:Nat} {o:Oper} {v:Value} {k:Nat} {ls:Array Bool} {a:Act} {w:World} (hi:ops[i]? = some o) (hwait:(Region.waitsFor md ops m i && decide (i≠m))=true)
 (hs:Region.noSelect ops=true) (hf:Region.free md ops ls i=true) (hr:(Region.ready md ops ls).contains i=true)
 (hQ:∀ c a w,Q (.panic c) (a.put o.dst v) w->Q (.panic c) a w) (hy:YieldsIf P ops S o v a) (hS:S w)
 (h:UpTo P md ops Q S m k (ls.setIfInBounds i true) (a.put o.dst v) w):UpTo P md ops Q S m (k+1) ls a w:=by
 rw[Bool.and_eq_true,decide_eq_true_eq] at hwait;exact UpTo.first hi hwait.1 hwait.2 (Region.noSelect_spec hs) hQ k ls a w (Region.free_spec hi hf) (by simpa using hr) hy hS h
theorem UpTo.one {i:Nat} {o:Oper} {k:Nat} {ls:Array Bool} {a:Act} {w:World} (hr:Region.ready md ops ls=[i]) (ho:ops[i]? = some o) (hsel:o.guard=none)
 (h:∀ K':Act->World->Prop,Hid (∀ a' w',S w'->UpTo P md ops Q S m k (ls.setIfInBounds i true) a' w'->K' a' w')->if Region.wanted o (yielded ops a.tmps)=true then Oper.wp P o a w K' Q else K' (a.put o.dst undef) w):UpTo P md ops Q S m (k+1) ls a w:=by
 refine⟨fun e=>(by rw[hr] at e;cases e),fun j hj=>?_⟩;rw[hr] at hj;obtain rfl:j=i:=by simpa using hj
 have hw:Region.wanted o (yielded ops a.tmps)=true:=by simp[Region.wanted,hsel]
 have h1:=h (fun a' w'=>(j≠m->S w')/\UpTo P md ops Q S m k (ls.setIfInBounds j true) a' w') (Wd (fun a' w' hS hU=>⟨fun _=>hS,hU⟩));rw[if_pos hw] at h1;unfold wpOp;simp only[ho,hw,if_true];exact .inl h1
theorem UpTo.last {o:Oper} {k:Nat} {ls:Array Bool} {a:Act} {w:World} (hr:Region.ready md ops ls=[m]) (ho:ops[m]? = some o) (hsel:o.guard=none) (hend:Region.ready md ops (ls.setIfInBounds m true)=[])
 (h:Oper.wp P o a w (Q .normal) Q):UpTo P md ops Q S m (k+1) ls a w:=by
 refine⟨fun e=>(by rw[hr] at e;cases e),fun j hj=>?_⟩;rw[hr] at hj;obtain rfl:j=m:=by simpa using hj
 have hw:Region.wanted o (yielded ops a.tmps)=true:=by simp[Region.wanted,hsel]
 have key:∀ a' w',Q .normal a' w'->(j≠j->S w')/\UpTo P md ops Q S j k (ls.setIfInBounds j true) a' w':=fun a' w' hq=>⟨fun e=>absurd rfl e,by
  cases k with
  | zero=>exact⟨hend,hq⟩
  | succ k=>exact⟨fun _=>hq,fun x hx=>by rw[hend] at hx;cases hx⟩⟩
 refine wpOp_mono key ?_;unfold wpOp;simp only[ho,hw,if_true];exact .inl h
theorem UpTo.region {id:Nat}{a:Act}{w:World}(hm:P.follows .mixedOrders=true)(hS:S w.drew)(h:S w.drew->UpTo P .any ops Q S m ops.size (Array.replicate ops.size false) a w.drew):(Code.region id ops true).wp P Q a w:=
 wp_region_any hm (UpTo.any _ _ _ _ (h hS))
theorem ut {i:Nat} {v:Value} {o:Oper} {k:Nat} {ls ls':Array Bool} {a a':Act} {w:World} (hS:S w) (h:UpTo P md ops Q S m k ls' a' w)
 (hi:ops[i]? = some o:=by rfl) (hwait:(Region.waitsFor md ops m i && decide (i≠m))=true:=by kernel_rfl) (hs:Region.noSelect ops=true:=by kernel_rfl) (hf:Region.free md ops ls i=true:=by kernel_rfl) (hr:(Region.ready md ops ls).contains i=true:=by kernel_rfl)
 (hQ:∀ c a w,Q (.panic c) (a.put o.dst v) w->Q (.panic c) a w:=by exact fun _ _ _ h=>h)
 (hw:Region.wanted o (yielded ops a.tmps)=true:=by rfl)
 (hv:∀ w,S w->(execOp a.eval o).run P w=.ok (.value v) w:=by (intro w0 hs;repeat (obtain⟨hq,hs⟩:=hs));go_simp)
 (hl:ls.setIfInBounds i true=ls':=by (first|(simp only[List.setIfInBounds_toArray,List.set_cons_zero,List.set_cons_succ];try rfl)|rfl))
 (ha:a.put o.dst v=a':=by (first|(simp only[Act.put,List.setIfInBounds_toArray,List.set_cons_zero,List.set_cons_succ,List.getElem_toArray,List.getElem_cons_zero,List.getElem_cons_succ];try rfl)|rfl)):UpTo P md ops Q S m (k+1) ls a w:=
 UpTo.take hi hwait hs hf hr hQ (.inl ⟨hw,hv⟩) hS (by rw[hl,ha];exact h)
end
section
variable {P:Program}{ops:Array Oper}{Q:Exit->Act->World->Prop}{md:Region.Mode}{S:World->Prop}{m:Nat}
def UpTil (P:Program)(md:Region.Mode)(ops:Array Oper)(Q:Exit->Act->World->Prop)(S:World->Prop)(m:Nat):Nat->Array Bool->Act->World->Prop
 | 0,ls,a,w=>Region.ready md ops ls=[]/\Q .normal a w
 | k+1,ls,a,w=>(Region.ready md ops ls=[]->Q .normal a w)/\∀ j∈Region.ready md ops ls,wpOp P ops Q j (fun a' w'=>(j≠m->ls.getD m true=false->S w')/\UpTil P md ops Q S m k (ls.setIfInBounds j true) a' w') a w
theorem UpTil.any:∀ (k:Nat) (ls:Array Bool) (a:Act) (w:World),UpTil P md ops Q S m k ls a w->wpAny P md ops Q k ls a w
 | 0,_,_,_,h=>h
 | k+1,_,_,_,h=>⟨h.1,fun j hj=>wpOp_mono (fun a' w' h'=>UpTil.any k _ a' w' h'.2) (h.2 j hj)⟩
theorem UpTil.first {i:Nat} {o:Oper} {v:Value} (hi:ops[i]? = some o) (hwait:Region.waitsFor md ops m i=true) (hne:i≠m) (hsel:∀ (j:Nat) (o:Oper) cs b,ops[j]? = some o->o.op≠.select cs b)
 (hQ:∀ c a w,Q (.panic c) (a.put o.dst v) w->Q (.panic c) a w) :
 ∀ (k:Nat) (ls:Array Bool) (a:Act) (w:World),
   (∀ j oj,ops[j]? = some oj->j≠i->ls.getD j true=false->(∀ e∈oj.after,Region.binds md e=true->e.on≠i)->o.apart ops oj=true) ->
   ls.getD m true=false->i∈Region.ready md ops ls->YieldsIf P ops S o v a->S w ->
   UpTil P md ops Q S m k (ls.setIfInBounds i true) (a.put o.dst v) w->UpTil P md ops Q S m (k+1) ls a w:=by
 have unl:∀ {ls:Array Bool},i∈Region.ready md ops ls->ls.getD i false=false:=fun {ls} h=>by
  have h0:=(mem_ready.1 h).1
  by_cases hlt:i<ls.size
  ·simp[hlt] at h0 ⊢;exact h0
  ·simp[Array.getElem?_eq_none (Nat.le_of_not_lt hlt)]
 intro k
 induction k with
 | zero=>
   intro ls a w _ hm hr hy hS H;refine⟨fun e=>(by rw[e] at hr;cases hr),fun j hj=>?_⟩
   by_cases hji:j=i
   ·subst hji;exact hy.wpOp hi hS ⟨fun _ _=>hS,H⟩
   ·have h1:=ready_mono hj hji;rw[H.1] at h1;cases h1
 | succ k ih=>
   intro ls a w hfr hm hr hy hS H;refine⟨fun e=>(by rw[e] at hr;cases hr),fun j hj=>?_⟩
   by_cases hji:j=i
   ·subst hji;exact hy.wpOp hi hS ⟨fun _ _=>hS,H⟩
   obtain⟨hju,oj,hoj,hall⟩:=mem_ready.1 hj;have hapart:∀ e∈oj.after,Region.binds md e=true->e.on≠i:=fun e he hb e2=>by
    have h1:=hall e he hb;rw[e2,unl hr] at h1;cases h1
   have hjm:j≠m:=by
    rintro rfl;obtain⟨o2,ho2,e,he,hb,hon⟩:=Region.waitsFor_spec hwait;obtain rfl:o2=oj:=Option.some.inj (ho2.symm.trans hoj);exact hapart e he hb hon
   have h2:=wpOp_putIf hoj (hfr j oj hoj hji hju hapart) (fun cs b=>hsel i o cs b hi) (fun cs b=>hsel j oj cs b hoj) hQ hy (H.2 j (ready_mono hj hji));have hm':(ls.setIfInBounds i true).getD m true=false:=by rw[getD_set_ne true hne];exact hm
   refine wpOp_mono (fun a' w' h3=>⟨fun e e'=>h3.2.1 e hm',ih (ls.setIfInBounds j true) a' w' (fun x ox hx hxi hun hno=>hfr x ox hx hxi ?_ hno) (by rw[getD_set_ne true hjm];exact hm) (ready_mono hr (Ne.symm hji)) h3.1 (h3.2.1 hjm hm') ?_⟩) h2
   ·by_cases e:j=x
    ·subst e;exact hju
    ·rw[getD_set_ne true e] at hun;exact hun
   ·rw[Array.setIfInBounds_comm _ _ hji];exact h3.2.2
theorem UpTil.take {i:Nat} {o:Oper} {v:Value} {k:Nat} {ls:Array Bool} {a:Act} {w:World} (hi:ops[i]? = some o) (hwait:(Region.waitsFor md ops m i && decide (i≠m))=true)
 (hs:Region.noSelect ops=true) (hf:Region.free md ops ls i=true) (hr:(Region.ready md ops ls).contains i=true) (hm:ls.getD m true=false)
 (hQ:∀ c a w,Q (.panic c) (a.put o.dst v) w->Q (.panic c) a w) (hy:YieldsIf P ops S o v a) (hS:S w)
 (h:UpTil P md ops Q S m k (ls.setIfInBounds i true) (a.put o.dst v) w):UpTil P md ops Q S m (k+1) ls a w:=by
 rw[Bool.and_eq_true,decide_eq_true_eq] at hwait;exact UpTil.first hi hwait.1 hwait.2 (Region.noSelect_spec hs) hQ k ls a w (Region.free_spec hi hf) hm (by simpa using hr) hy hS h
theorem UpTil.pure {i:Nat} {o:Oper} {v:Value} (hi:ops[i]? = some o) (hne:i≠m) (hsel:∀ (j:Nat) (o:Oper) cs b,ops[j]? = some o->o.op≠.select cs b)
 (hQ:∀ c a w,Q (.panic c) (a.put o.dst v) w->Q (.panic c) a w) :
 ∀ (k:Nat) (ls:Array Bool) (a:Act) (w:World),
   (∀ j oj,ops[j]? = some oj->j≠i->ls.getD j true=false->(∀ e∈oj.after,Region.binds md e=true->e.on≠i)->o.apart ops oj=true) ->
   (ls.getD m true=false->S w)->i∈Region.ready md ops ls->YieldsIf P ops (fun _=>True) o v a ->
   UpTil P md ops Q S m k (ls.setIfInBounds i true) (a.put o.dst v) w->UpTil P md ops Q S m (k+1) ls a w:=by
 have unl:∀ {ls:Array Bool},i∈Region.ready md ops ls->ls.getD i false=false:=fun {ls} h=>by
  have h0:=(mem_ready.1 h).1
  by_cases hlt:i<ls.size
  ·simp[hlt] at h0 ⊢;exact h0
  ·simp[Array.getElem?_eq_none (Nat.le_of_not_lt hlt)]
 intro k
 induction k with
 | zero=>
   intro ls a w _ hm hr hy H;refine⟨fun e=>(by rw[e] at hr;cases hr),fun j hj=>?_⟩
   by_cases hji:j=i
   ·subst hji;exact hy.wpOp hi trivial ⟨fun _ h=>hm h,H⟩
   ·have h1:=ready_mono hj hji;rw[H.1] at h1;cases h1
 | succ k ih=>
   intro ls a w hfr hm hr hy H;refine⟨fun e=>(by rw[e] at hr;cases hr),fun j hj=>?_⟩
   by_cases hji:j=i
   ·subst hji;exact hy.wpOp hi trivial ⟨fun _ h=>hm h,H⟩
   obtain⟨hju,oj,hoj,hall⟩:=mem_ready.1 hj;have hapart:∀ e∈oj.after,Region.binds md e=true->e.on≠i:=fun e he hb e2=>by
    have h1:=hall e he hb;rw[e2,unl hr] at h1;cases h1
   have h2:=wpOp_putIf hoj (hfr j oj hoj hji hju hapart) (fun cs b=>hsel i o cs b hi) (fun cs b=>hsel j oj cs b hoj) hQ hy (H.2 j (ready_mono hj hji));have hback:(ls.setIfInBounds i true).getD m true=ls.getD m true:=getD_set_ne true hne;refine wpOp_mono (fun a' w' h3=>⟨fun e e'=>h3.2.1 e (by rw[hback];exact e'),ih (ls.setIfInBounds j true) a' w' (fun x ox hx hxi hun hno=>hfr x ox hx hxi ?_ hno) (fun e'=>?_) (ready_mono hr (Ne.symm hji)) h3.1 ?_⟩) h2
   ·by_cases e:j=x
    ·subst e;exact hju
    ·rw[getD_set_ne true e] at hun;exact hun
   ·by_cases hjm:j=m
    ·subst hjm
     exfalso
     have:(ls.setIfInBounds j true).getD j true=true:=by
      by_cases hlt:j<ls.size
      ·simp[hlt]
      ·simp[hlt]
     rw[this] at e';cases e'
    ·rw[getD_set_ne true hjm] at e';exact h3.2.1 hjm (by rw[hback];exact e')
   ·rw[Array.setIfInBounds_comm _ _ hji];exact h3.2.2
theorem UpTil.takePure {i:Nat} {o:Oper} {v:Value} {k:Nat} {ls:Array Bool} {a:Act} {w:World} (hi:ops[i]? = some o) (hne:decide (i≠m)=true)
 (hs:Region.noSelect ops=true) (hf:Region.free md ops ls i=true) (hr:(Region.ready md ops ls).contains i=true)
 (hQ:∀ c a w,Q (.panic c) (a.put o.dst v) w->Q (.panic c) a w) (hy:YieldsIf P ops (fun _=>True) o v a) (hS:S w)
 (h:UpTil P md ops Q S m k (ls.setIfInBounds i true) (a.put o.dst v) w):UpTil P md ops Q S m (k+1) ls a w:=
 UpTil.pure hi (of_decide_eq_true hne) (Region.noSelect_spec hs) hQ k ls a w (Region.free_spec hi hf) (fun _=>hS) (by simpa using hr) hy h
theorem UpTil.one {i:Nat} {o:Oper} {k:Nat} {ls:Array Bool} {a:Act} {w:World} (hr:Region.ready md ops ls=[i]) (ho:ops[i]? = some o) (hsel:o.guard=none)
 (h:∀ K':Act->World->Prop,Hid (∀ a' w',(ls.getD m true=false->S w')->UpTil P md ops Q S m k (ls.setIfInBounds i true) a' w'->K' a' w')->if Region.wanted o (yielded ops a.tmps)=true then Oper.wp P o a w K' Q else K' (a.put o.dst undef) w):UpTil P md ops Q S m (k+1) ls a w:=by
 refine⟨fun e=>(by rw[hr] at e;cases e),fun j hj=>?_⟩;rw[hr] at hj;obtain rfl:j=i:=by simpa using hj
 have hw:Region.wanted o (yielded ops a.tmps)=true:=by simp[Region.wanted,hsel]
 have h1:=h (fun a' w'=>(j≠m->ls.getD m true=false->S w')/\UpTil P md ops Q S m k (ls.setIfInBounds j true) a' w') (Wd (fun a' w' hS hU=>⟨fun _=>hS,hU⟩));rw[if_pos hw] at h1;unfold wpOp;simp only[ho,hw,if_true];exact .inl h1
theorem UpTil.last {o:Oper} {k:Nat} {ls:Array Bool} {a:Act} {w:World} (hr:Region.ready md ops ls=[m]) (ho:ops[m]? = some o) (hsel:o.guard=none) (hend:Region.ready md ops (ls.setIfInBounds m true)=[])
 (h:Oper.wp P o a w (Q .normal) Q):UpTil P md ops Q S m (k+1) ls a w:=by
 refine⟨fun e=>(by rw[hr] at e;cases e),fun j hj=>?_⟩;rw[hr] at hj;obtain rfl:j=m:=by simpa using hj
 have hw:Region.wanted o (yielded ops a.tmps)=true:=by simp[Region.wanted,hsel]
 have key:∀ a' w',Q .normal a' w'->(j≠j->ls.getD j true=false->S w')/\UpTil P md ops Q S j k (ls.setIfInBounds j true) a' w':=fun a' w' hq=>⟨fun e=>absurd rfl e,by
  cases k with
  | zero=>exact⟨hend,hq⟩
  | succ k=>exact⟨fun _=>hq,fun x hx=>by rw[hend] at hx;cases hx⟩⟩
 refine wpOp_mono key ?_;unfold wpOp;simp only[ho,hw,if_true];exact .inl h
theorem UpTil.region {id:Nat}{a:Act}{w:World}(hm:P.follows .mixedOrders=true)(hS:S w.drew)(h:S w.drew->UpTil P .any ops Q S m ops.size (Array.replicate ops.size false) a w.drew):(Code.region id ops true).wp P Q a w:=
 wp_region_any hm (UpTil.any _ _ _ _ (h hS))
theorem ul {i:Nat} {v:Value} {o:Oper} {k:Nat} {ls ls':Array Bool} {a a':Act} {w:World} (hS:S w) (h:UpTil P md ops Q S m k ls' a' w)
 (hi:ops[i]? = some o:=by rfl) (hwait:(Region.waitsFor md ops m i && decide (i≠m))=true:=by kernel_rfl) (hs:Region.noSelect ops=true:=by kernel_rfl) (hf:Region.free md ops ls i=true:=by kernel_rfl) (hr:(Region.ready md ops ls).contains i=true:=by kernel_rfl) (hm:ls.getD m true=false:=by kernel_rfl)
 (hQ:∀ c a w,Q (.panic c) (a.put o.dst v) w->Q (.panic c) a w:=by exact fun _ _ _ h=>h)
 (hw:Region.wanted o (yielded ops a.tmps)=true:=by rfl)
 (hv:∀ w,S w->(execOp a.eval o).run P w=.ok (.value v) w:=by (intro w0 hs;repeat (obtain⟨hq,hs⟩:=hs));go_simp)
 (hl:ls.setIfInBounds i true=ls':=by (first|(simp only[List.setIfInBounds_toArray,List.set_cons_zero,List.set_cons_succ];try rfl)|rfl))
 (ha:a.put o.dst v=a':=by (first|(simp only[Act.put,List.setIfInBounds_toArray,List.set_cons_zero,List.set_cons_succ,List.getElem_toArray,List.getElem_cons_zero,List.getElem_cons_succ];try rfl)|rfl)):UpTil P md ops Q S m (k+1) ls a w:=
 UpTil.take hi hwait hs hf hr hm hQ (.inl ⟨hw,hv⟩) hS (by rw[hl,ha];exact h)
theorem up {i:Nat} {v:Value} {o:Oper} {k:Nat} {ls ls':Array Bool} {a a':Act} {w:World} (hS:S w) (h:UpTil P md ops Q S m k ls' a' w)
 (hi:ops[i]? = some o:=by rfl) (hne:decide (i≠m)=true:=by kernel_rfl) (hs:Region.noSelect ops=true:=by kernel_rfl) (hf:Region.free md ops ls i=true:=by kernel_rfl) (hr:(Region.ready md ops ls).contains i=true:=by kernel_rfl)
 (hQ:∀ c a w,Q (.panic c) (a.put o.dst v) w->Q (.panic c) a w:=by exact fun _ _ _ h=>h)
 (hw:Region.wanted o (yielded ops a.tmps)=true:=by rfl)
 (hv:∀ w,True->(execOp a.eval o).run P w=.ok (.value v) w:=by (intro w0 hs;repeat (obtain⟨hq,hs⟩:=hs));go_simp)
 (hl:ls.setIfInBounds i true=ls':=by (first|(simp only[List.setIfInBounds_toArray,List.set_cons_zero,List.set_cons_succ];try rfl)|rfl))
 (ha:a.put o.dst v=a':=by (first|(simp only[Act.put,List.setIfInBounds_toArray,List.set_cons_zero,List.set_cons_succ,List.getElem_toArray,List.getElem_cons_zero,List.getElem_cons_succ];try rfl)|rfl)):UpTil P md ops Q S m (k+1) ls a w:=
 UpTil.takePure hi hne hs hf hr hQ (.inl ⟨hw,fun w _=>hv w trivial⟩) hS (by rw[hl,ha];exact h)
end
end Go.Proofs.YtfffibepcdlldaaGreat
