/- A slice value that reads as a list of strings; the contract of Same, for all paths. -/
import Derived.Test.YtfffibepcdlldaaGreatZA12
import Derived.WalkSmall
set_option linter.unusedVariables false
set_option linter.unusedSimpArgs false
set_option maxRecDepth 100000
set_option maxHeartbeats 64000000
open Go.Proofs.Tryz

namespace Go.Proofs.YtfffibepcdlldaaGreat
open Go.ChangeShapes Go.WideShapes Go.ChangeAt Go.RowKit
theorem step_append_wide {P:Program} {ops:Array Oper} {o:Oper} {a:Act} {w:World} {K:Act->World->Prop} {Q:Exit->Act->World->Prop} {E:Prop}
 (hg:o.guard=none) (s x:Operand) (t:TypeId) (hop:o.op=Op.call { callee:=Callee.builtin Builtin.append,args:=#[s,x],argTypes:=#[t,t] })
 (base:Nat) (e:TypeId) (i:TypeInfo) (z:Value) (size bytes:Nat) (ht:P.underlying t=some (.slice e)) (hi:P.info? e=some i) (hz:i.zero=some z)
 (hsize:i.size=size) (hby:i.bytes=bytes) (hzs:z.cells.size=size) (hsz:0<size)
 (v:Value) (n:Nat) (xs:List Value) (hs:a.eval s=v) (hown:w.ownsRow base e size v n xs)
 (ad:Addr) (m c:Nat) (news:List Value) (hx:a.eval x=.slice (some ad) m c) (hl:news.length=m*size) (hnews:∀ j u,news[j]? = some u->w.cell? (ad.add j)=some u) (h1:∀ u∈news,u.oneCell'=true)
 (h63:n+m<=maxLen) (hbytes:((n+m)+(n+m)/4+192)*bytes<=281474976710656) (hbase:base<=w.heap.size)
 (hK:∀ v' w',w'.ownsRow base e size v' (n+m) (xs ++ news)->w.grownBy w' v.ownBlock->K (a.put o.dst v') w') :
 if Region.wanted o (yielded ops a.tmps)=true then Oper.wp P o a w K Q else E:=by
 have hw:Region.wanted o (yielded ops a.tmps)=true:=by simp[Region.wanted,hg]
 rw[if_pos hw];obtain⟨v',w',hrun,r1,r2,-⟩:=run_append_own_wide (P:=P) w base t o.type e i z size bytes ht hi hz hsize hby hzs hsz v n xs hown ad m c news hl hnews h1 h63 hbytes hbase;unfold Oper.wp;simp[execOp,hop,resolve,invoke,builtin,hs,hx,hrun,Result.andThen];exact hK v' w' r1 r2
theorem grown_undrew {w w':World}{row:Option Nat}(h:w.drew.grownBy w' row):w.grownBy w' row:=⟨h.os,h.tape,h.output,h.size,h.block⟩
theorem rParse_any (s:ByteArray)(w:World)(h1:0<s.size)(h2:s.size<=256)(h0:PM.has s 0=false) :
 Calls prog 133 #[.string s] w (Parsed s w):=by
 obtain⟨i0,hi,hz0,hz1,hz2⟩:=info_parts info_str;obtain⟨e1,e2⟩:=full_facts (s:=s) (by omega);have H0:Hid (∀ k (h:k<s.size),((s[k].toNat:Int) == 0)=false):=by
  intro k hk
  by_cases e:(s[k].toNat:Int)=0
  ·have:=has_of (v:=0) hk (by simpa using e);rw[h0] at this;cases this
  ·simpa using e
 have hno:=Wd (@perr_none s h1 h2 h0);have hyes:=Wd (fun l=>@perr_some s l h1 h2 h0);have i1:1<=(s.size:Int):=by omega
 have i2:(s.size:Int)-1<s.size:=by omega
 have i3:((s.size:Int)-1).toNat=s.size-1:=by omega
 have i4:decide (256<(s.size:Int))=false:=by simp;omega
 have iA:=Wd (first_eq s h1).symm;have iD:=Wd (last_eq s h1).symm;clear h0;go_enter func133,ntmps133
 go_wp2_with fail
 go_loop [4] (fun i=>∃ k:Nat,k<=s.size/\i=.int .i64 k) (fun i=>s.size-(intOf i).toNat)
 case atStart=>exact⟨0,Nat.zero_le _,rfl⟩
 case round=>
 obtain⟨k,hk,rfl⟩:=hrel
 by_cases hlt:k<s.size
 ·have hb:=H0.out k hlt;go_wp2
  go_round
  case rel=>exact⟨k+1,by omega,by go_num⟩
  case measure=>simp[intOf];omega
 obtain rfl:k=s.size:=by omega
 go_wp2
 have iA':=iA.out;have iD':=iD.out;go_region
 go_wp2
 clear i4 iA' iD';go_loopw [6,7] (fun f i wr=>∃ (k a:Nat) (v:Value) (l:List ByteArray),k<=s.size+1/\a<=s.size+1/\l.length<=k/\i=.int .i64 k/\f=.int .i64 a/\Hid (At s k a l)/\PB wr w.heap.size false (.slice none 0 0) false/\PB wr (w.heap.size+1) (PM.first s) v (PM.last s) /\
  wr.ownsRow (w.heap.size+2) 9 1 v l.length (scl l)/\Below w.heap.size w wr) (fun _ i _=>s.size+1-(intOf i).toNat)
 case atStart=>exact⟨0,0,.slice none 0 0,[],by omega,by omega,Nat.le_refl _,rfl,rfl,At.start s,(PB.new w _ _ _ rfl).alloc _,PB.new (w.alloc _) _ _ _ (by simp),World.ownsRow_nil _ _ _ _,(((Below.refl _ _).alloc (Nat.le_refl _) _).alloc (by simp) _).drew⟩
 case round=>
  obtain⟨k,a,v,l,hk,ha,hl,rfl,rfl,hat,hp0,hp1,hown,bel⟩:=hrel;obtain⟨ao,cap,rfl⟩:=own_form hown;have c00:=hp0.c0;have c01:=hp0.c1;have c02:=hp0.c2;have f0:=hp0.fz;have c10:=hp1.c0;have c11:=hp1.c1;have c12:=hp1.c2;have f1:=hp1.fz
  by_cases hcont:∃ h:k<s.size,¬ (s[k].toNat:Int)=47
  ·obtain⟨hlt,hc⟩:=hcont;have hb:((s[k].toNat:Int) == 47)=false:=by simpa using hc
   have hat':=Wd (hat.out.go hlt hc);clear hc hat;go_wp2
   go_roundw
   case rel=>exact⟨k+1,a,_,l,by omega,ha,by omega,by go_num,rfl,hat',hp0,hp1,hown,bel⟩
   case measure=>simp[intOf];omega
  ·have hc:∀ h:k<s.size,(s[k].toNat:Int)=47:=fun h=>Classical.byContradiction fun hn=>hcont ⟨h,hn⟩;clear hcont
   by_cases hks:k<=s.size
   ·have hak:=hat.out.le hks;obtain⟨p,hp⟩:∃ p,p=s.extract a k:=⟨_,rfl⟩;have hsl:∀ w,(Instr.slice 9 (.string s) (some (.int .i64 (a:Int))) (some (.int .i64 (k:Int))) none).run prog w=.ok (.string p) w:=fun w=>by
     rw[run_slice_string w _ s _ _ _ _ underlying9 (by omega) (by omega) (by omega),hp];rfl
    have HP:=Wd hp;clear hp
    by_cases h32:32<k-a
    ·have hn:=Wd (hat.out.stop hks hc h32);have h32':32<(k:Int)-a:=by omega
     clear hat;have hb:k<s.size->(∀ h:k<s.size,((s[k].toNat:Int) == 47)=true):=fun _ h=>by simpa using hc h
     have hb:=Wd hb;clear hc
     by_cases hlt:k<s.size
     ·have hb':=hb.out hlt hlt;go_wp2
      have hq:=((hp0.set0 false).set1 (.slice none 0 0)).set2 false;have bel':=((bel.setCell (p:=⟨w.heap.size,0,none⟩) (Nat.le_refl _) (.bool false)).setCell (p:=⟨w.heap.size,1,none⟩) (Nat.le_refl _) (.slice none 0 0)).setCell (p:=⟨w.heap.size,2,none⟩) (Nat.le_refl _) (.bool false);refine bodyPost_ret (res_path results133 _ _ rfl hq) rfl ?_;obtain⟨r1,r2,r3,r4⟩:=hno.out hn.out;unfold Parsed;rw[r1,r2,r3,r4];exact⟨_,rfl,World.ownsRow_nil _ _ _ _,bel'⟩
     ·go_wp2
      have hq:=((hp0.set0 false).set1 (.slice none 0 0)).set2 false;have bel':=((bel.setCell (p:=⟨w.heap.size,0,none⟩) (Nat.le_refl _) (.bool false)).setCell (p:=⟨w.heap.size,1,none⟩) (Nat.le_refl _) (.slice none 0 0)).setCell (p:=⟨w.heap.size,2,none⟩) (Nat.le_refl _) (.bool false);refine bodyPost_ret (res_path results133 _ _ rfl hq) rfl ?_;obtain⟨r1,r2,r3,r4⟩:=hno.out hn.out;unfold Parsed;rw[r1,r2,r3,r4];exact⟨_,rfl,World.ownsRow_nil _ _ _ _,bel'⟩
    ·have hat':=Wd (hat.out.next hks hc h32);have h32':(k:Int)-a<=32:=by omega
     have hb:k<s.size->(∀ h:k<s.size,((s[k].toNat:Int) == 47)=true):=fun _ h=>by simpa using hc h
     have hb:=Wd hb;clear hc
     by_cases hka:k=a
     ·subst hka;have hat2:Hid (At s (k+1) (k+1) l):=by have:=hat'.out;rw[if_pos rfl] at this;exact this
      clear hat hat'
      by_cases hlt:k<s.size
      ·have hb':=hb.out hlt hlt;go_wp2
       go_roundw
       case rel=>exact⟨k+1,k+1,_,l,by omega,by omega,by omega,by go_num,by go_num,hat2,hp0,hp1,hown,bel⟩
       case measure=>simp[intOf];omega
      ·go_wp2
       go_roundw
       case rel=>exact⟨k+1,k+1,_,l,by omega,by omega,by omega,by go_num,by go_num,hat2,hp0,hp1,hown,bel⟩
       case measure=>simp[intOf];omega
     ·have hgt:a<k:=by omega
      have hat2:Hid (At s (k+1) (k+1) (l ++ [p])):=by have:=hat'.out;rw[if_neg hka,<-HP.out] at this;exact this
      clear hat hat' hka
      by_cases hlt:k<s.size
      ·have hb':=hb.out hlt hlt;have d12:∀ o,(wr.alloc o).cell? ⟨w.heap.size+1,1,none⟩=some (.slice ao l.length cap):=fun o=>(hp1.alloc o).c1;go_wp2
       go_region_law (refine step_append_wide rfl (.tmp 61) (.tmp 66) 144 rfl (w.heap.size+2) 9 i0 (.string ByteArray.empty) 1 16 underlying144 hi hz0 hz1 hz2 rfl (by decide) (.slice ao l.length cap) l.length (scl l) rfl (hown.alloc _) ⟨wr.heap.size,0,none⟩ 1 1 [.string p] rfl rfl (cell_one_new _ _ _) (by intro u hu;simp at hu;subst hu;rfl) (by unfold maxLen;omega) (by omega) (by simp;have:=hp1.lt;omega) ?_;intro v2 w2 hown2 hgrow2;obtain⟨ao2,cap2,rfl⟩:=own_form hown2;obtain⟨q0,q1,q2,q3,q4⟩:=append_keeps hp0 hp1 hown bel hown2 (grown_undrew hgrow2);have d1:=q1.c1;have d2:=q1.fz)
       all_goals
        clear hown2 hgrow2 hown bel c00 c01 c02 f0 c10 c11 c12 f1 hp0 hp1 d12 d1 d2;go_wp2
        have q1':=q1.set1 (.slice ao2 (l.length+1) cap2);have q0':=q0.far (p:=⟨w.heap.size+1,1,none⟩) (by simp) (.slice ao2 (l.length+1) cap2);have q2':=own_set q2 (by simp) (.slice ao2 (l.length+1) cap2) (p:=⟨w.heap.size+1,1,none⟩);have q3':=q3.setCell (p:=⟨w.heap.size+1,1,none⟩) (by simp) (.slice ao2 (l.length+1) cap2);go_roundw
        case rel=>exact⟨k+1,k+1,_,l ++ [p],by omega,by omega,by simp;omega,by go_num,by go_num,hat2,q0',q1',(by rw[scl_append,List.length_append];exact q2'),q3'⟩
        case measure=>simp[intOf];omega
      ·have d12:∀ o,(wr.alloc o).cell? ⟨w.heap.size+1,1,none⟩=some (.slice ao l.length cap):=fun o=>(hp1.alloc o).c1;go_wp2
       go_region_law (refine step_append_wide rfl (.tmp 61) (.tmp 66) 144 rfl (w.heap.size+2) 9 i0 (.string ByteArray.empty) 1 16 underlying144 hi hz0 hz1 hz2 rfl (by decide) (.slice ao l.length cap) l.length (scl l) rfl (hown.alloc _) ⟨wr.heap.size,0,none⟩ 1 1 [.string p] rfl rfl (cell_one_new _ _ _) (by intro u hu;simp at hu;subst hu;rfl) (by unfold maxLen;omega) (by omega) (by simp;have:=hp1.lt;omega) ?_;intro v2 w2 hown2 hgrow2;obtain⟨ao2,cap2,rfl⟩:=own_form hown2;obtain⟨q0,q1,q2,q3,q4⟩:=append_keeps hp0 hp1 hown bel hown2 (grown_undrew hgrow2);have d1:=q1.c1;have d2:=q1.fz)
       all_goals
        clear hown2 hgrow2 hown bel c00 c01 c02 f0 c10 c11 c12 f1 hp0 hp1 d12 d1 d2;go_wp2
        have q1':=q1.set1 (.slice ao2 (l.length+1) cap2);have q0':=q0.far (p:=⟨w.heap.size+1,1,none⟩) (by simp) (.slice ao2 (l.length+1) cap2);have q2':=own_set q2 (by simp) (.slice ao2 (l.length+1) cap2) (p:=⟨w.heap.size+1,1,none⟩);have q3':=q3.setCell (p:=⟨w.heap.size+1,1,none⟩) (by simp) (.slice ao2 (l.length+1) cap2);go_roundw
        case rel=>exact⟨k+1,k+1,_,l ++ [p],by omega,by omega,by simp;omega,by go_num,by go_num,hat2,q0',q1',(by rw[scl_append,List.length_append];exact q2'),q3'⟩
        case measure=>simp[intOf];omega
   ·obtain rfl:k=s.size+1:=by omega
    have hsome:Hid (PM.split [] [] s.data.toList=some l):=by
     rcases hat.out with ⟨h,-⟩|⟨-,h⟩
     ·omega
     ·exact h
    clear hat hc;go_wp2
    have hq:=((hp0.set0 (PM.first s)).set1 (.slice ao l.length cap)).set2 (PM.last s);have bel':=((bel.setCell (p:=⟨w.heap.size,0,none⟩) (Nat.le_refl _) (.bool (PM.first s))).setCell (p:=⟨w.heap.size,1,none⟩) (Nat.le_refl _) (.slice ao l.length cap)).setCell (p:=⟨w.heap.size,2,none⟩) (Nat.le_refl _) (.bool (PM.last s));have hown':=own_set (p:=⟨w.heap.size,2,none⟩) (own_set (p:=⟨w.heap.size,1,none⟩) (own_set (p:=⟨w.heap.size,0,none⟩) hown (by simp) (.bool (PM.first s))) (by simp) (.slice ao l.length cap)) (by simp) (.bool (PM.last s));refine bodyPost_ret (res_path results133 _ _ rfl hq) rfl ?_;obtain⟨r1,r2,r3,r4⟩:=hyes.out _ hsome.out;unfold Parsed;rw[r1,r2,r3,r4];exact⟨_,rfl,own_base (by omega) hown',bel'⟩
theorem rParse_all (s:ByteArray)(w:World)(hs:s.size<=maxLen):Calls prog 133 #[.string s] w (Parsed s w):=by
 by_cases h1:s.size=0
 ·have he:PM.perr s=11:=by unfold PM.perr;rw[if_pos h1]
  have HE:=Wd (fun w'=>@parsed_no s w w' 11 he (by decide));obtain⟨e1,e2⟩:=empty_facts h1;clear h1 he;go_enter func133,ntmps133
  go_wp2_with fail
  exact bodyPost_ret (res_path results133 _ _ rfl (PB.new w _ _ _ rfl)) rfl (HE.out _ ((Below.refl _ _).alloc (Nat.le_refl _) _))
 by_cases h2:256<s.size
 ·have he:PM.perr s=17:=by unfold PM.perr;rw[if_neg h1,if_pos h2]
  have HE:=Wd (fun w'=>@parsed_no s w w' 17 he (by decide));obtain⟨e1,e2⟩:=full_facts h1;have i4:decide (256<(s.size:Int))=true:=by simp;omega
  unfold maxLen at hs;clear h1 he;go_enter func133,ntmps133
  go_wp2_with fail
  exact bodyPost_ret (res_path results133 _ _ rfl (PB.new w _ _ _ rfl)) rfl (HE.out _ ((Below.refl _ _).alloc (Nat.le_refl _) _))
 by_cases h0:PM.has s 0=true
 ·have he:PM.perr s=2:=by unfold PM.perr;rw[if_neg h1,if_neg h2,h0];rfl
  have HE:=Wd (fun w'=>@parsed_no s w w' 2 he (by decide));obtain⟨e1,e2⟩:=full_facts h1;have i4:decide (256<(s.size:Int))=false:=by simp;omega
  have hn:Hid (¬ (s.data.toList.take s.size).any (fun c=>c.toNat == 0)=false):=fun h=>by rw[has_none h] at h0;cases h0
  unfold maxLen at hs;clear h1 he h0;go_enter func133,ntmps133
  go_wp2_with fail
  go_loop [4] (fun i=>∃ k:Nat,k<=s.size/\i=.int .i64 k/\Hid ((s.data.toList.take k).any (fun c=>c.toNat == 0)=false)) (fun i=>s.size-(intOf i).toNat)
  case atStart=>exact⟨0,Nat.zero_le _,rfl,rfl⟩
  case round=>
  obtain⟨k,hk,rfl,hno⟩:=hrel
  by_cases hlt:k<s.size
  ·by_cases hc:(s[k].toNat:Int)=0
   ·have hb:((s[k].toNat:Int) == 0)=true:=by simpa using hc
    clear hc;go_wp2
    exact bodyPost_ret (res_path results133 _ _ rfl (PB.new w _ _ _ rfl)) rfl (HE.out _ ((Below.refl _ _).alloc (Nat.le_refl _) _))
   ·have hb:((s[k].toNat:Int) == 0)=false:=by simpa using hc
    have hn2:Hid ((s.data.toList.take (k+1)).any (fun c=>c.toNat == 0)=false):=by
     have h0:=hno.out
     show _=false
     rw[any_take_snoc _ _ _ hlt,h0];simp only[Bool.false_or,beq_eq_false_iff_ne,ne_eq]
     omega
    clear hc;go_wp2
    go_round
    case rel=>exact⟨k+1,by omega,by go_num,hn2⟩
    case measure=>simp[intOf];omega
  ·obtain rfl:k=s.size:=by omega
   exact absurd hno.out hn.out
 ·exact rParse_any s w (by omega) (by omega) (by simpa using h0)
def SS (w:World)(ao:Option Addr)(n cap:Nat)(l:List ByteArray):Prop:=
 l.length=n/\n<=cap/\cap<=maxLen/\(ao=none->cap=0)/\∀ a,ao=some a->∀ j u,(scl l)[j]? = some u->w.cell? (a.add j)=some u
theorem SS.below {w w':World}{ao:Option Addr}{n cap:Nat}{l:List ByteArray}(h:SS w ao n cap l){B:Nat}(hb:Below B w w')(hB:w.heap.size<=B):SS w' ao n cap l:=by
 refine⟨h.1,h.2.1,h.2.2.1,h.2.2.2.1,fun a ha j u hu=>?_⟩;have hc:=h.2.2.2.2 a ha j u hu;rw[hb.cell (Nat.lt_of_lt_of_le (World.block_lt_of_cell? w _ hc) hB)];exact hc
theorem SS.nil (w:World):SS w none 0 0 []:=⟨rfl,Nat.le_refl _,Nat.zero_le _,fun _=>rfl,fun _ h=>by cases h⟩
theorem SS.alloc {w:World}{ao:Option Addr}{n cap:Nat}{l:List ByteArray}(h:SS w ao n cap l)(o:Obj):SS (w.alloc o) ao n cap l:=h.below (Below.alloc (Below.refl _ _) (Nat.le_refl _) o) (Nat.le_refl _)
theorem SS_own {w:World}{base e:Nat}{n cap:Nat}{ao:Option Addr}{l:List ByteArray}(h:w.ownsRow base e 1 (.slice ao n cap) n (scl l)):SS w ao n cap l:=by
 have hl:l.length=n:=by have:=h.1;rw[scl_length] at this;omega
 rcases h.2 with ⟨h',h''⟩|⟨g',cap',cur,h',hb,hg,hnc,hcm,_⟩
 ·simp only[Value.slice.injEq] at h';obtain⟨rfl,rfl,rfl⟩:=h';obtain rfl:=List.eq_nil_of_length_eq_zero hl;exact SS.nil w
 ·simp only[Value.slice.injEq,true_and] at h';obtain⟨rfl,rfl⟩:=h';refine⟨hl,hnc,hcm,(fun h=>by cases h),fun a ha j u hu=>?_⟩;obtain rfl:=Option.some.inj ha;exact h.cells (g:=g') rfl j u hu
theorem SS.at_ {w:World}{ao:Option Addr}{n cap:Nat}{l:List ByteArray}(h:SS w ao n cap l)(hn:0<n):∃ blk off,ao=some ⟨blk,off,none⟩/\∀ j,(hj:j<n)->w.cell? ⟨blk,off+j,none⟩=some (.string (l[j]'(by rw[h.1];exact hj))):=by
 obtain⟨hl,h1,h2,h3,h4⟩:=h
 cases ao with
 | none=>have:=h3 rfl;omega
 | some a=>
   have hcell:∀ j,(hj:j<n)->w.cell? (a.add j)=some (.string (l[j]'(by rw[hl];exact hj))):=fun j hj=>by
    refine h4 a rfl j _ ?_;rw[scl_get,List.getElem?_eq_getElem (by rw[hl];exact hj)];rfl
   obtain⟨b,off,spot⟩:=a;have h0:=hcell 0 hn;have hs:spot=none:=by simpa[Addr.add] using World.cell?_spot h0
   subst hs;exact⟨b,off,rfl,fun j hj=>by have:=hcell j hj;rwa[Addr.add_lit] at this⟩
def same (a1:Bool)(l1:List ByteArray)(d1 a2:Bool)(l2:List ByteArray)(d2:Bool):Bool:=decide (a1=a2) && decide (d1=d2) && decide (l1=l2)
end Go.Proofs.YtfffibepcdlldaaGreat
