/- A part. -/
import Derived.Test.YtfffibepcdlldaaGreatZA11
import Derived.Maps.AppendAt
import Derived.Deep.RegionLaw
import Derived.RegionTactic
import Derived.Deep.DeepAppendWide
set_option linter.unusedVariables false
set_option linter.unusedSimpArgs false
set_option maxRecDepth 100000
set_option maxHeartbeats 64000000
open Go.Proofs.Tryz

namespace Go.Proofs.YtfffibepcdlldaaGreat
open Go.ChangeShapes Go.WideShapes Go.ChangeAt Go.RowKit
theorem info_str:(prog.info? 9).map (fun i=>(i.zero,i.size,i.bytes))=some (some (.string ByteArray.empty),1,16):=by kernel_rfl
def scl (l:List ByteArray):List Value:=l.map Value.string
theorem scl_length (l:List ByteArray):(scl l).length=l.length:=by simp[scl]
theorem scl_append (a b:List ByteArray):scl (a ++ b)=scl a ++ scl b:=by simp[scl]
theorem scl_get (l:List ByteArray)(j:Nat):(scl l)[j]? = (l[j]?).map Value.string:=by simp[scl]
def PB (w:World)(g:Nat)(a:Bool)(v:Value)(d:Bool):Prop:=w.heap[g]? = some (.cells #[.bool a,v,.bool d] 146 (0,0))
section
variable {w w':World}{g:Nat}{a d:Bool}{v:Value}
theorem PB.c0 (h:PB w g a v d):w.cell? ⟨g,0,none⟩=some (.bool a):=by rw[cell_of_row w g 0 _ _ _ h];rfl
theorem PB.c1 (h:PB w g a v d):w.cell? ⟨g,1,none⟩=some v:=by rw[cell_of_row w g 1 _ _ _ h];rfl
theorem PB.c2 (h:PB w g a v d):w.cell? ⟨g,2,none⟩=some (.bool d):=by rw[cell_of_row w g 2 _ _ _ h];rfl
theorem PB.fz (h:PB w g a v d)(i:Nat):w.frozen? ⟨g,i,none⟩=false:=by unfold PB at h;simp[World.frozen?,h]
theorem PB.lt (h:PB w g a v d):g<w.heap.size:=by
 rcases Nat.lt_or_ge g w.heap.size with hlt|hge
 ·exact hlt
 ·unfold PB at h;rw[Array.getElem?_eq_none hge] at h;cases h
theorem PB.below {B:Nat}(h:PB w g a v d)(hb:Below B w w')(hg:g<B):PB w' g a v d:=(hb.block g hg).trans h
theorem PB.alloc (h:PB w g a v d)(o:Obj):PB (w.alloc o) g a v d:=(Below.heap_alloc w o g h.lt).trans h
theorem PB.grown {row:Option Nat}(h:PB w g a v d)(hb:w.grownBy w' row)(hg:some g≠row):PB w' g a v d:=(hb.block g h.lt hg).trans h
theorem PB.far (h:PB w g a v d){p:Addr}(hp:g≠p.block)(u:Value):PB (w.setCell p u) g a v d:=(Below.heap_setCell w p u g hp).trans h
theorem PB.new {x:Nat}(w:World)(a:Bool)(v:Value)(d:Bool)(hx:x=w.heap.size):PB (w.alloc (.cells #[.bool a,v,.bool d] 146)) x a v d:=by subst hx;exact heap_alloc_new w _
theorem PB.set1 (h:PB w g a v d)(u:Value):PB (w.setCell ⟨g,1,none⟩ u) g a u d:=by
 unfold PB at h ⊢;simp[World.setCell,Array.getElem?_modify,h]
theorem PB.set0 (h:PB w g a v d)(b:Bool):PB (w.setCell ⟨g,0,none⟩ (.bool b)) g b v d:=by
 unfold PB at h ⊢;simp[World.setCell,Array.getElem?_modify,h]
theorem PB.set2 (h:PB w g a v d)(b:Bool):PB (w.setCell ⟨g,2,none⟩ (.bool b)) g a v b:=by
 unfold PB at h ⊢;simp[World.setCell,Array.getElem?_modify,h]
end
theorem res_path {fn:Func}{r t:Tmp}(hres:fn.results=#[.cell r 146,.tmp t])(tmps:Array Value)(w:World){g:Nat}{a d:Bool}{v:Value}(hr:tmps.getD r undef=.pointer (some ⟨g,0,none⟩))(hp:PB w g a v d) :
 (results fn tmps).run prog w=.ok (.tuple #[.agg #[.bool a,v,.bool d],tmps.getD t undef]) w:=by
 have c0:=hp.c0;have c1:=hp.c1;have c2:=hp.c2;rw[Array.getD_eq_getD_getElem?] at hr;simp[results,hres,go_sem,hr,c0,c1,c2]
theorem own_form {w:World}{base e n:Nat}{v:Value}{xs:List Value}(h:w.ownsRow base e 1 v n xs):∃ ao cap,v=.slice ao n cap:=by
 rcases h.2 with ⟨rfl,rfl⟩|⟨g,cap,cur,rfl,_⟩
 ·have:=h.1;simp at this;subst this;exact⟨_,_,rfl⟩
 ·exact⟨_,_,rfl⟩
theorem own_set {w:World}{base e size n:Nat}{v:Value}{xs:List Value}(h:w.ownsRow base e size v n xs){p:Addr}(hp:p.block<base)(u:Value):(w.setCell p u).ownsRow base e size v n xs:=by
 rcases h.2 with h0|⟨g,cap,cur,h1,h2,h3,h4⟩
 ·exact⟨h.1,.inl h0⟩
 ·exact⟨h.1,.inr ⟨g,cap,cur,h1,h2,(Below.heap_setCell w p u g (by omega)).trans h3,h4⟩⟩
theorem append_keeps {w wr w2:World} {o:Obj} {a d:Bool} {v v2:Value} {n n2:Nat} {xs xs2:List Value} {a0 d0:Bool} {v0:Value} {e:TypeId}
 (hp0:PB wr w.heap.size a0 v0 d0) (hp1:PB wr (w.heap.size+1) a v d) (hown:wr.ownsRow (w.heap.size+2) e 1 v n xs) (bel:Below w.heap.size w wr)
 (hown2:w2.ownsRow (w.heap.size+2) e 1 v2 n2 xs2) (hg:(wr.alloc o).grownBy w2 v.ownBlock) :
 PB w2 w.heap.size a0 v0 d0/\PB w2 (w.heap.size+1) a v d/\w2.ownsRow (w.heap.size+2) e 1 v2 n2 xs2/\Below w.heap.size w w2/\wr.heap.size<=w2.heap.size:=by
 refine⟨(hp0.alloc _).grown hg ?_,(hp1.alloc _).grown hg ?_,hown2,(bel.alloc bel.size _).grown hg (by simp;have:=bel.size;omega) (fun g h=>by have:=own_ge hown g h;omega),Nat.le_trans (by simp) hg.size⟩
 ·intro h;have:=own_ge hown _ h.symm;omega
 ·intro h;have:=own_ge hown _ h.symm;omega
theorem first_eq (s:ByteArray)(h:0<s.size):PM.first s=((s[0].toNat:Int) == 47):=by
 have:=byte_get s 0 h;unfold PM.first;rw[<-List.drop_zero (l:=s.data.toList),this];simp only[List.head?_cons,Option.any_some];rw[Bool.eq_iff_iff,beq_iff_eq,beq_iff_eq];omega
theorem last_eq (s:ByteArray)(h:0<s.size):PM.last s=((s[s.size-1].toNat:Int) == 47):=by
 unfold PM.last;rw[List.getLast?_eq_getElem?,PM.list_size,List.getElem?_eq_getElem (by rw[PM.list_size];omega)];simp only[Option.any_some];have e:s.data.toList[s.size-1]'(by rw[PM.list_size];omega)=s[s.size-1]:=rfl;rw[e,Bool.eq_iff_iff,beq_iff_eq,beq_iff_eq]
 omega
theorem extract_list (s:ByteArray)(a b:Nat):(s.extract a b).data.toList=(s.data.toList.take b).drop a:=by
 rw[ByteArray.data_extract,Array.toList_extract,List.extract_eq_take_drop,List.drop_take]
theorem cut_size (s:ByteArray)(a b:Nat)(h1:a<=b)(h2:b<=s.size):(s.extract a b).size=b-a:=by
 rw[<-PM.list_size,extract_list,List.length_drop,List.length_take,PM.list_size];omega
def part (s:ByteArray)(a b:Nat):List UInt8:=(s.extract a b).data.toList
theorem part_length (s:ByteArray)(a b:Nat)(h1:a<=b)(h2:b<=s.size):(part s a b).length=b-a:=by
 unfold part;rw[PM.list_size,cut_size s a b h1 h2]
theorem part_nil (s:ByteArray)(a:Nat):part s a a=[]:=by
 unfold part;rw[extract_list];exact List.drop_eq_nil_of_le (by simp;omega)
theorem part_snoc (s:ByteArray)(a b:Nat)(h1:a<=b)(h2:b<s.size):part s a (b+1)=part s a b ++ [s[b]]:=by
 unfold part;rw[extract_list,extract_list,List.take_succ_eq_append_getElem (by rw[PM.list_size];exact h2),List.drop_append];have e:a-(List.take b s.data.toList).length=0:=by rw[List.length_take,PM.list_size];omega
 rw[e];rfl
theorem str_part (s:ByteArray)(a b:Nat):PM.str (part s a b)=s.extract a b:=PM.str_of _
def At (s:ByteArray)(k a:Nat)(l:List ByteArray):Prop:=
 (k<=s.size/\a<=k/\PM.split (part s a k) l (s.data.toList.drop k)=PM.split [] [] s.data.toList)∨(k=s.size+1/\PM.split [] [] s.data.toList=some l)
theorem At.start (s:ByteArray):At s 0 0 []:=.inl ⟨Nat.zero_le _,Nat.le_refl _,by rw[part_nil];rfl⟩
theorem At.go {s:ByteArray}{k a:Nat}{l:List ByteArray}(h:At s k a l)(hk:k<s.size)(hc:¬ (s[k].toNat:Int)=47):At s (k+1) a l:=by
 rcases h with ⟨h1,h2,h3⟩|⟨h1,-⟩
 ·refine .inl ⟨by omega,by omega,?_⟩;rw[<-h3,byte_get s k hk,PM.split,if_neg (by omega),part_snoc s a k h2 hk]
 ·omega
theorem At.stop {s:ByteArray}{k a:Nat}{l:List ByteArray}(h:At s k a l)(hk:k<=s.size)(hc:∀ h:k<s.size,(s[k].toNat:Int)=47)(h32:32<k-a):PM.split [] [] s.data.toList=none:=by
 rcases h with ⟨h1,h2,h3⟩|⟨h1,-⟩
 ·have hl:=part_length s a k h2 h1;rw[<-h3]
  by_cases hlt:k<s.size
  ·rw[byte_get s k hlt,PM.split,if_pos (by have:=hc hlt;omega),if_pos (by omega)]
  ·rw[List.drop_eq_nil_of_le (by rw[PM.list_size];omega),PM.split,if_pos (by omega)]
 ·omega
theorem At.next {s:ByteArray}{k a:Nat}{l:List ByteArray}(h:At s k a l)(hk:k<=s.size)(hc:∀ h:k<s.size,(s[k].toNat:Int)=47)(h32:¬ 32<k-a):At s (k+1) (k+1) (if k=a then l else l ++ [s.extract a k]):=by
 rcases h with ⟨h1,h2,h3⟩|⟨h1,-⟩
 ·have hl:=part_length s a k h2 h1;have he:PM.emit (part s a k) l=if k=a then l else l ++ [s.extract a k]:=by
   unfold PM.emit
   by_cases e:k=a
   ·rw[if_pos e,if_pos (by rw[e];exact part_nil s a)]
   ·rw[if_neg e,if_neg (fun h=>by rw[h] at hl;simp at hl;omega),str_part]
  rw[<-he]
  by_cases hlt:k<s.size
  ·refine .inl ⟨by omega,Nat.le_refl _,?_⟩;rw[<-h3,byte_get s k hlt,PM.split,if_pos (by have:=hc hlt;omega),if_neg (by omega),part_nil]
  ·refine .inr ⟨by omega,?_⟩;rw[<-h3,List.drop_eq_nil_of_le (by rw[PM.list_size];omega),PM.split,if_neg (by omega)]
 ·omega
theorem At.le {s:ByteArray}{k a:Nat}{l:List ByteArray}(h:At s k a l)(hk:k<=s.size):a<=k:=by
 rcases h with ⟨_,h2,_⟩|⟨h1,-⟩ <;> omega
theorem perr_none {s:ByteArray}(h1:0<s.size)(h2:s.size<=256)(h0:PM.has s 0=false)(h:PM.split [] [] s.data.toList=none):PM.perr s=17/\PM.pA s=false/\PM.pD s=false/\PM.pN s=[]:=by
 have he:PM.perr s=17:=by unfold PM.perr;rw[if_neg (by omega),if_neg (by omega),h0,h];simp
 refine⟨he,?_,?_,?_⟩
 ·unfold PM.pA;rw[he];rfl
 ·unfold PM.pD;rw[he];rfl
 ·unfold PM.pN;rw[he];rfl
theorem perr_some {s:ByteArray}{l:List ByteArray}(h1:0<s.size)(h2:s.size<=256)(h0:PM.has s 0=false)(h:PM.split [] [] s.data.toList=some l):PM.perr s=0/\PM.pA s=PM.first s/\PM.pD s=PM.last s/\PM.pN s=l:=by
 have he:PM.perr s=0:=by unfold PM.perr;rw[if_neg (by omega),if_neg (by omega),h0,h];simp
 refine⟨he,?_,?_,?_⟩
 ·unfold PM.pA;rw[he];rfl
 ·unfold PM.pD;rw[he];rfl
 ·unfold PM.pN PM.names;rw[he,h];rfl
theorem Parse_any (s:ByteArray)(w:World)(h1:0<s.size)(h2:s.size<=256)(h0:PM.has s 0=false) :
 Calls prog 75 #[.string s] w fun e w'=>∃ v,e=.returned (.tuple #[.agg #[.bool (PM.pA s),v,.bool (PM.pD s)],.int .i64 (PM.perr s)]) /\
  w'.ownsRow w.heap.size 9 1 v (PM.pN s).length (scl (PM.pN s))/\Below w.heap.size w w':=by
 obtain⟨i0,hi,hz0,hz1,hz2⟩:=info_parts info_str;obtain⟨e1,e2⟩:=full_facts (s:=s) (by omega);have H0:Hid (∀ w,Calls prog 118 #[.string s,.int .u8 0] w fun e w'=>e=.returned (.bool false)/\w=w'):=by
  intro w;have:=contains_any s 0 0 rfl w (by unfold maxLen;omega);rwa[h0] at this
 have hno:=Wd (@perr_none s h1 h2 h0);have hyes:=Wd (fun l=>@perr_some s l h1 h2 h0);have i1:1<=(s.size:Int):=by omega
 have i2:(s.size:Int)-1<s.size:=by omega
 have i3:((s.size:Int)-1).toNat=s.size-1:=by omega
 have i4:decide (256<(s.size:Int))=false:=by simp;omega
 have iA:=(first_eq s h1).symm;have iD:=(last_eq s h1).symm;clear h0;go_enter func75,ntmps75
 go_wp2_with fail
 refine (H0.out _).mono ?_;rintro e w' ⟨rfl,rfl⟩;go_wp2_with fail
 go_region
 go_wp2
 clear i4 iA iD;go_loopw [5,34] (fun f i wr=>∃ (k a:Nat) (v:Value) (l:List ByteArray),k<=s.size+1/\a<=s.size+1/\l.length<=k/\i=.int .i64 k/\f=.int .i64 a/\Hid (At s k a l)/\PB wr w.heap.size false (.slice none 0 0) false/\PB wr (w.heap.size+1) (PM.first s) v (PM.last s) /\
  wr.ownsRow (w.heap.size+2) 9 1 v l.length (scl l)/\Below w.heap.size w wr) (fun _ i _=>s.size+1-(intOf i).toNat)
 case atStart=>exact⟨0,0,.slice none 0 0,[],by omega,by omega,Nat.le_refl _,rfl,rfl,At.start s,(PB.new w _ _ _ rfl).alloc _,PB.new (w.alloc _) _ _ _ (by simp),World.ownsRow_nil _ _ _ _,(((Below.refl _ _).alloc (Nat.le_refl _) _).alloc (by simp) _).drew⟩
 case round=>
  obtain⟨k,a,v,l,hk,ha,hl,rfl,rfl,hat,hp0,hp1,hown,bel⟩:=hrel;obtain⟨ao,cap,rfl⟩:=own_form hown;have c00:=hp0.c0;have c01:=hp0.c1;have c02:=hp0.c2;have f0:=hp0.fz;have c10:=hp1.c0;have c11:=hp1.c1;have c12:=hp1.c2;have f1:=hp1.fz
  by_cases hcont:∃ h:k<s.size,¬ (s[k].toNat:Int)=47
  ·obtain⟨hlt,hc⟩:=hcont;have hb:((s[k].toNat:Int) == 47)=false:=by simpa using hc
   have hat':=Wd (hat.out.go hlt hc);clear hc hat;go_wp2
   go_roundw
   case rel=>exact⟨k+1,a,_,l,by omega,ha,by omega,by go_num,rfl,hat',hp0,hp1,hown,bel⟩
   case measure=>simp[intOf];omega
  ·have hc:∀ h:k<s.size,(s[k].toNat:Int)=47:=fun h=>Classical.byContradiction fun hn=>hcont ⟨h,hn⟩;clear hcont
   by_cases hks:k<=s.size
   ·have hak:=hat.out.le hks;obtain⟨p,hp⟩:∃ p,p=s.extract a k:=⟨_,rfl⟩;have hsl:∀ w,(Instr.slice 9 (.string s) (some (.int .i64 (a:Int))) (some (.int .i64 (k:Int))) none).run prog w=.ok (.string p) w:=fun w=>by
     rw[run_slice_string w _ s _ _ _ _ underlying9 (by omega) (by omega) (by omega),hp];rfl
    have hpz:=cut_size s a k hak hks;rw[<-hp] at hpz;have HP:=Wd hp;clear hp
    by_cases h32:32<k-a
    ·have hn:=Wd (hat.out.stop hks hc h32);have h32':32<p.size:=by omega
     clear hat hpz;have hb:k<s.size->(∀ h:k<s.size,((s[k].toNat:Int) == 47)=true):=fun _ h=>by simpa using hc h
     have hb:=Wd hb;clear hc
     by_cases hlt:k<s.size
     ·have hb':=hb.out hlt hlt;go_wp2
      have hq:=((hp0.set0 false).set1 (.slice none 0 0)).set2 false;have bel':=((bel.setCell (p:=⟨w.heap.size,0,none⟩) (Nat.le_refl _) (.bool false)).setCell (p:=⟨w.heap.size,1,none⟩) (Nat.le_refl _) (.slice none 0 0)).setCell (p:=⟨w.heap.size,2,none⟩) (Nat.le_refl _) (.bool false);refine bodyPost_ret (res_path results75 _ _ rfl hq) rfl ?_;obtain⟨r1,r2,r3,r4⟩:=hno.out hn.out;rw[r1,r2,r3,r4];exact⟨_,rfl,World.ownsRow_nil _ _ _ _,bel'⟩
     ·go_wp2
      have hq:=((hp0.set0 false).set1 (.slice none 0 0)).set2 false;have bel':=((bel.setCell (p:=⟨w.heap.size,0,none⟩) (Nat.le_refl _) (.bool false)).setCell (p:=⟨w.heap.size,1,none⟩) (Nat.le_refl _) (.slice none 0 0)).setCell (p:=⟨w.heap.size,2,none⟩) (Nat.le_refl _) (.bool false);refine bodyPost_ret (res_path results75 _ _ rfl hq) rfl ?_;obtain⟨r1,r2,r3,r4⟩:=hno.out hn.out;rw[r1,r2,r3,r4];exact⟨_,rfl,World.ownsRow_nil _ _ _ _,bel'⟩
    ·have hat':=Wd (hat.out.next hks hc h32);have h32':p.size<=32:=by omega
     have hb:k<s.size->(∀ h:k<s.size,((s[k].toNat:Int) == 47)=true):=fun _ h=>by simpa using hc h
     have hb:=Wd hb;clear hc
     by_cases hka:k=a
     ·subst hka;obtain⟨p1,p2⟩:=empty_facts (s:=p) (by omega);have hat2:Hid (At s (k+1) (k+1) l):=by have:=hat'.out;rw[if_pos rfl] at this;exact this
      clear hat hpz hat'
      by_cases hlt:k<s.size
      ·have hb':=hb.out hlt hlt;go_wp2
       go_roundw
       case rel=>exact⟨k+1,k+1,_,l,by omega,by omega,by omega,by go_num,by go_num,hat2,hp0,hp1,hown,bel⟩
       case measure=>simp[intOf];omega
      ·go_wp2
       go_roundw
       case rel=>exact⟨k+1,k+1,_,l,by omega,by omega,by omega,by go_num,by go_num,hat2,hp0,hp1,hown,bel⟩
       case measure=>simp[intOf];omega
     ·obtain⟨p1,p2⟩:=full_facts (s:=p) (by omega);have hat2:Hid (At s (k+1) (k+1) (l ++ [p])):=by have:=hat'.out;rw[if_neg hka,<-HP.out] at this;exact this
      clear hat hpz hat'
      by_cases hlt:k<s.size
      ·have hb':=hb.out hlt hlt;go_wp2_with (at_builtin;apply Hid.out)
       refine Wd ?_;refine wpList_append_own_wide _ rfl (.tmp 58) (.tmp 60) 144 rfl (w.heap.size+2) 9 i0 (.string ByteArray.empty) 1 16 underlying144 hi hz0 hz1 hz2 rfl (by decide) _ l.length (scl l) rfl (hown.alloc _) ⟨wr.heap.size,0,none⟩ 1 1 [.string p] rfl rfl (cell_one_new _ _ _) (by intro u hu;simp at hu;subst hu;rfl) (by unfold maxLen;omega) (by omega) (by simp;have:=hp1.lt;omega) ?_;intro v2 w2 hown2 hgrow2 hnn;obtain⟨ao2,cap2,rfl⟩:=own_form hown2;obtain⟨q0,q1,q2,q3,q4⟩:=append_keeps hp0 hp1 hown bel hown2 hgrow2;clear hown2 hgrow2 hnn hown bel c00 c01 c02 f0 c10 c11 c12 f1 hp0 hp1;have c1:=q1.c1;have f1:=q1.fz;go_wp2
       have q1':=q1.set1 (.slice ao2 (l.length+1) cap2);have q0':=q0.far (p:=⟨w.heap.size+1,1,none⟩) (by simp) (.slice ao2 (l.length+1) cap2);have q2':=own_set q2 (by simp) (.slice ao2 (l.length+1) cap2) (p:=⟨w.heap.size+1,1,none⟩);have q3':=q3.setCell (p:=⟨w.heap.size+1,1,none⟩) (by simp) (.slice ao2 (l.length+1) cap2);go_roundw
       case rel=>exact⟨k+1,k+1,_,l ++ [p],by omega,by omega,by simp;omega,by go_num,by go_num,hat2,q0',q1',(by rw[scl_append,List.length_append];exact q2'),q3'⟩
       case measure=>simp[intOf];omega
      ·go_wp2_with (at_builtin;apply Hid.out)
       refine Wd ?_;refine wpList_append_own_wide _ rfl (.tmp 58) (.tmp 60) 144 rfl (w.heap.size+2) 9 i0 (.string ByteArray.empty) 1 16 underlying144 hi hz0 hz1 hz2 rfl (by decide) _ l.length (scl l) rfl (hown.alloc _) ⟨wr.heap.size,0,none⟩ 1 1 [.string p] rfl rfl (cell_one_new _ _ _) (by intro u hu;simp at hu;subst hu;rfl) (by unfold maxLen;omega) (by omega) (by simp;have:=hp1.lt;omega) ?_;intro v2 w2 hown2 hgrow2 hnn;obtain⟨ao2,cap2,rfl⟩:=own_form hown2;obtain⟨q0,q1,q2,q3,q4⟩:=append_keeps hp0 hp1 hown bel hown2 hgrow2;clear hown2 hgrow2 hnn hown bel c00 c01 c02 f0 c10 c11 c12 f1 hp0 hp1;have c1:=q1.c1;have f1:=q1.fz;go_wp2
       have q1':=q1.set1 (.slice ao2 (l.length+1) cap2);have q0':=q0.far (p:=⟨w.heap.size+1,1,none⟩) (by simp) (.slice ao2 (l.length+1) cap2);have q2':=own_set q2 (by simp) (.slice ao2 (l.length+1) cap2) (p:=⟨w.heap.size+1,1,none⟩);have q3':=q3.setCell (p:=⟨w.heap.size+1,1,none⟩) (by simp) (.slice ao2 (l.length+1) cap2);go_roundw
       case rel=>exact⟨k+1,k+1,_,l ++ [p],by omega,by omega,by simp;omega,by go_num,by go_num,hat2,q0',q1',(by rw[scl_append,List.length_append];exact q2'),q3'⟩
       case measure=>simp[intOf];omega
   ·obtain rfl:k=s.size+1:=by omega
    have hsome:Hid (PM.split [] [] s.data.toList=some l):=by
     rcases hat.out with ⟨h,-⟩|⟨-,h⟩
     ·omega
     ·exact h
    clear hat hc;go_wp2
    have hq:=((hp0.set0 (PM.first s)).set1 (.slice ao l.length cap)).set2 (PM.last s);have bel':=((bel.setCell (p:=⟨w.heap.size,0,none⟩) (Nat.le_refl _) (.bool (PM.first s))).setCell (p:=⟨w.heap.size,1,none⟩) (Nat.le_refl _) (.slice ao l.length cap)).setCell (p:=⟨w.heap.size,2,none⟩) (Nat.le_refl _) (.bool (PM.last s));have hown':=own_set (p:=⟨w.heap.size,2,none⟩) (own_set (p:=⟨w.heap.size,1,none⟩) (own_set (p:=⟨w.heap.size,0,none⟩) hown (by simp) (.bool (PM.first s))) (by simp) (.slice ao l.length cap)) (by simp) (.bool (PM.last s));refine bodyPost_ret (res_path results75 _ _ rfl hq) rfl ?_;obtain⟨r1,r2,r3,r4⟩:=hyes.out _ hsome.out;rw[r1,r2,r3,r4];exact⟨_,rfl,own_base (by omega) hown',bel'⟩
theorem perr_facts {s:ByteArray}{n:Int}(h:PM.perr s=n)(hn:n≠0):PM.perr s=n/\PM.pA s=false/\PM.pD s=false/\PM.pN s=[]:=by
 refine⟨h,?_,?_,?_⟩
 ·unfold PM.pA;rw[h,if_neg hn]
 ·unfold PM.pD;rw[h,if_neg hn]
 ·unfold PM.pN;rw[h,if_neg hn]
def Parsed (s:ByteArray)(w:World)(e:Ending)(w':World):Prop:=∃ v,e=.returned (.tuple #[.agg #[.bool (PM.pA s),v,.bool (PM.pD s)],.int .i64 (PM.perr s)]) /\
 w'.ownsRow w.heap.size 9 1 v (PM.pN s).length (scl (PM.pN s))/\Below w.heap.size w w'
theorem parsed_no {s:ByteArray}{w w':World}{n:Int}(h:PM.perr s=n)(hn:n≠0)(hb:Below w.heap.size w w'):Parsed s w (.returned (.tuple #[.agg #[.bool false,.slice none 0 0,.bool false],.int .i64 n])) w':=by
 obtain⟨r1,r2,r3,r4⟩:=perr_facts h hn;unfold Parsed;rw[r1,r2,r3,r4];exact⟨_,rfl,World.ownsRow_nil _ _ _ _,hb⟩
theorem Parse_all (s:ByteArray)(w:World)(hs:s.size<=maxLen):Calls prog 75 #[.string s] w (Parsed s w):=by
 by_cases h1:s.size=0
 ·have he:PM.perr s=11:=by unfold PM.perr;rw[if_pos h1]
  have HE:=Wd (fun w'=>@parsed_no s w w' 11 he (by decide));obtain⟨e1,e2⟩:=empty_facts h1;clear h1 he;go_enter func75,ntmps75
  go_wp2_with fail
  exact bodyPost_ret (res_path results75 _ _ rfl (PB.new w _ _ _ rfl)) rfl (HE.out _ ((Below.refl _ _).alloc (Nat.le_refl _) _))
 by_cases h2:256<s.size
 ·have he:PM.perr s=17:=by unfold PM.perr;rw[if_neg h1,if_pos h2]
  have HE:=Wd (fun w'=>@parsed_no s w w' 17 he (by decide));obtain⟨e1,e2⟩:=full_facts h1;have i4:decide (256<(s.size:Int))=true:=by simp;omega
  unfold maxLen at hs;clear h1 he;go_enter func75,ntmps75
  go_wp2_with fail
  exact bodyPost_ret (res_path results75 _ _ rfl (PB.new w _ _ _ rfl)) rfl (HE.out _ ((Below.refl _ _).alloc (Nat.le_refl _) _))
 by_cases h0:PM.has s 0=true
 ·have he:PM.perr s=2:=by unfold PM.perr;rw[if_neg h1,if_neg h2,h0];rfl
  have HE:=Wd (fun w'=>@parsed_no s w w' 2 he (by decide));obtain⟨e1,e2⟩:=full_facts h1;have i4:decide (256<(s.size:Int))=false:=by simp;omega
  have H0:Hid (∀ w,Calls prog 118 #[.string s,.int .u8 0] w fun e w'=>e=.returned (.bool true)/\w=w'):=by
   intro w;have:=contains_any s 0 0 rfl w hs;rwa[h0] at this
  unfold maxLen at hs;clear h1 he h0;go_enter func75,ntmps75
  go_wp2_with fail
  refine (H0.out _).mono ?_;rintro e w' ⟨rfl,rfl⟩;go_wp2_with fail
  exact bodyPost_ret (res_path results75 _ _ rfl (PB.new w _ _ _ rfl)) rfl (HE.out _ ((Below.refl _ _).alloc (Nat.le_refl _) _))
 ·exact Parse_any s w (by omega) (by omega) (by simpa using h0)
end Go.Proofs.YtfffibepcdlldaaGreat
