/- A part. -/
import Derived.Test.YtfffibepcdlldaaGreatZA22
import Derived.Test.YtfffibepcdlldaaGreatZA03
import Derived.Test.YtfffibepcdlldaaGreatZA01
import Derived.Lib.UnsafeStr
import Derived.Lib.BufferWrite
import Derived.Laws.MakeOwn
import Derived.Test.YtfffibepcdlldaaGreatZA08
set_option linter.unusedVariables false
set_option linter.unusedSimpArgs false
set_option maxRecDepth 100000
set_option maxHeartbeats 64000000
open Go.Proofs.Tryz

namespace Go.Proofs.YtfffibepcdlldaaGreat
open Go.ChangeShapes Go.WideShapes Go.ChangeAt Go.RowKit Go.Maps
namespace NT
open IN (Keeps)
def vacR (M:ByteArray->Option (Int×Option Nat))(k:ByteArray)(kind:Int)(d:Bool):Int:=if (M k).isSome=true∨PM.name k=false then 12 else if kind=1/\d=true then 14 else 0
theorem vac1_any (n:Int)(g m kb:Nat)(u:Int)(pu:Option Nat)(M:ByteArray->Option (Int×Option Nat))(k:ByteArray)(d:Bool)(kind:Int)(hk:NS.Sm k)(w:World)(h:DB w g u pu m M)(hkb:w.cell? ⟨kb,0,none⟩=some (.int .i64 kind)) :
 Calls prog 172 #[.agg #[.int .i64 n,.pointer (some ⟨g,0,none⟩),.string k,.bool d],.pointer (some ⟨kb,0,none⟩)] w fun e w'=>e=.returned (.int .i64 (vacR M k kind d))/\Below w.heap.size w w':=by
 have b0:Below w.heap.size w (w.alloc (.cells #[.int .i64 n,.pointer (some ⟨g,0,none⟩),.string k,.bool d] 183)):=(Below.refl _ w).alloc (Nat.le_refl _) _;have cT:=Wd (target_any n g m u pu M k d hk _ (h.keep b0));have cN:=fun w=>IsName_any k w hk;have hp:Blk (w.alloc (.cells #[.int .i64 n,.pointer (some ⟨g,0,none⟩),.string k,.bool d] 183)) w.heap.size 183 [.int .i64 n,.pointer (some ⟨g,0,none⟩),.string k,.bool d]:=Blk.new _ _ _ rfl;have hv:=Wd (show vacR M k kind d=_ from rfl);obtain⟨r,hr⟩:∃ r,(M k).getD (0,none)=r:=⟨_,rfl⟩;obtain⟨b,hbb⟩:∃ b,(M k).isSome=b:=⟨_,rfl⟩;obtain⟨y,hy⟩:∃ y,PM.name k=y:=⟨_,rfl⟩;rw[hr,hbb] at cT;rw[hy] at cN;replace cN:=fun w=>Wd (cN w);unfold vacR;rw[hbb,hy];obtain⟨r1,r2⟩:=r;obtain⟨pp,hpp⟩:=ptr_form r2;simp only[NS.nv,hpp] at cT;have fin:∀ w1:World,Below _ (w.alloc (.cells #[.int .i64 n,.pointer (some ⟨g,0,none⟩),.string k,.bool d] 183)) w1->Blk (w1.alloc (.cells #[.int .i64 r1,.pointer pp] 84)) w.heap.size 183 [.int .i64 n,.pointer (some ⟨g,0,none⟩),.string k,.bool d]/\(w1.alloc (.cells #[.int .i64 r1,.pointer pp] 84)).cell? ⟨kb,0,none⟩=some (.int .i64 kind)/\Below w.heap.size w (w1.alloc (.cells #[.int .i64 r1,.pointer pp] 84)):=fun w1 b1=>by
  have b2:Below w.heap.size w w1:=b0.trans (b1.mono b0.size);refine⟨(hp.keep b1).alloc _,?_,b2.alloc b2.size _⟩;rw[(b2.alloc b2.size _).cell (World.block_lt_of_cell? _ _ hkb)];exact hkb
 replace fin:=Wd fin;clear h hr hbb hpp hp b0 hkb hy hv;go_enter func172,ntmps172
 go_wp2_with fail
 refine cT.out.mono ?_;rintro e w1 ⟨rfl,b1⟩;obtain⟨p1,k1,B1⟩:=fin.out w1 b1;have c1:=p1.cell (j:=1) rfl;have c2:=p1.cell (j:=2) rfl;have c3:=p1.cell (j:=3) rfl;have B1:=Wd B1;clear p1 b1 cT fin
 cases b with
 | true=>
   go_wp2_with fail
   go_ret
   exact⟨by simp,B1.out⟩
 | false=>
   cases y with
   | false=>
     go_wp2_with fail
     refine (cN _).out.mono ?_;rintro e w2 ⟨rfl,rfl⟩;go_wp2_with fail
     go_ret
     exact⟨by simp,B1.out⟩
   | true=>
     go_wp2_with fail
     refine (cN _).out.mono ?_;rintro e w2 ⟨rfl,rfl⟩
     by_cases hk1:kind=1
     ·subst hk1
      cases d with
      | true=>
        go_wp2_with fail
        go_ret
        exact⟨by simp,B1.out⟩
      | false=>
        go_wp2_with fail
        go_ret
        exact⟨by simp,B1.out⟩
     ·have hne:(kind == 1)=false:=by simpa using hk1
      go_wp2_with fail
      go_ret
      exact⟨by simp[hk1],B1.out⟩
section
variable {base:Nat}{w w':World}{tg sg mb:Nat}{A:Int->Option (Nat×Nat)}{D:Ds}
theorem place_dir {D:Ds}{l:List ByteArray}{r m:Int}(h:place D l r=.ok m):D m≠none:=by
 unfold place at h
 split at h
 ·cases h
 ·split at h
  ·cases h
  ·split at h
   ·cases h
   ·rename_i e
    cases h
    exact e
theorem last_mem {l:List ByteArray}(h:l≠[]):last l∈l:=by
 unfold last;have:l.length-1<l.length:=by have:=List.length_pos_iff.2 h;omega
 rw[List.getD_eq_getElem?_getD,List.getElem?_eq_getElem this];exact List.getElem_mem _
theorem last_sm {l:List ByteArray}(hs:∀ k∈l,NS.Sm k):NS.Sm (last l):=by
 by_cases h:l=[]
 ·subst h;show ByteArray.size _<=maxLen;decide
 ·exact hs _ (last_mem h)
def vac (D:Ds)(kind:Int)(k:ByteArray)(d:Bool)(m:Int):Int:=if at_ D m k≠none∨PM.name k=false then 12 else if kind=1/\d=true then 14 else 0
theorem at_nm (h:TM base w tg sg mb A D){n:Int}{d:Dr}(hD:D n=some d)(k:ByteArray):nm A d.l k=(at_ D n k).map fun j=>(j,pa A j):=by
 unfold nm at_;rw[hD]
theorem TM.db (h:TM base w tg sg mb A D){n:Int}{d:Dr}(hD:D n=some d):∃ g m,A n=some (g,m)/\pa A n=some g/\DB w g d.up (pa A d.up) m (nm A d.l):=by
 obtain⟨g,m,hA,h1,h2⟩:=h.has hD;exact⟨g,m,hA,by unfold pa;rw[hA];rfl,h1,h2⟩
theorem enters_vac1:∀ args w,(callFunc 172 args).run prog w=.ok (.enter 172 args) w:=
 fun args w=>by kernel_rfl
theorem vacant_any (a d:Bool)(kind:Int)(l:List ByteArray)(ao:Option Addr)(n cap:Nat)(w:World)(h:TM base w tg sg mb A D)(hl:SS w ao n cap l)(hs:∀ k∈l,NS.Sm k) :
 Calls prog 141 #[.pointer (some ⟨tg,0,none⟩),.agg #[.bool a,.slice ao n cap,.bool d],.int .i64 kind] w fun e' w'=>e'=.returned (.tuple #[pv A l d (placeC D l 12 (vac D kind (last l) d)),.int .i64 (er (placeC D l 12 (vac D kind (last l) d)))])/\Below w.heap.size w w':=by
 have b0:=new3 w (.cells #[.bool a,.slice ao n cap,.bool d] 146) (.cells #[.int .i64 kind] 3) (.cells #[.int .i64 0,.pointer none,.string ⟨#[]⟩,.bool false] 183);have hK:(((w.alloc (.cells #[.bool a,.slice ao n cap,.bool d] 146)).alloc (.cells #[.int .i64 kind] 3)).alloc (.cells #[.int .i64 0,.pointer none,.string ⟨#[]⟩,.bool false] 183)).cell? ⟨w.heap.size+1,0,none⟩=some (.int .i64 kind):=Blk.cell (j:=0) (l:=[.int .i64 kind]) ((Blk.new _ _ _ (by simp)).alloc _) rfl;have cP:=Wd (place_all a d 12 l ao n cap 172 #[.pointer (some ⟨w.heap.size+1,0,none⟩)] _ (h.keep b0) (hl.below b0 (Nat.le_refl _)) hs enters_vac1 (vac D kind (last l) d) (fun m hp W hW=>by
  have hD:=place_dir hp
  cases hd:D m with
  | none=>exact absurd hd hD
  | some dr=>
    obtain⟨g,mm,hA,hpa,hdb⟩:=((h.keep b0).keep hW).db hd;unfold plv;rw[hpa];have c:=vac1_any m g mm (w.heap.size+1) dr.up (pa A dr.up) (nm A dr.l) (last l) d kind (last_sm hs) W hdb (by rw[hW.cell (World.block_lt_of_cell? _ _ hK)];exact hK);have e1:vacR (nm A dr.l) (last l) kind d=vac D kind (last l) d m:=by
     unfold vacR vac;rw[at_nm h hd]
     cases at_ D m (last l) <;> simp
    rw[e1] at c;exact c))
 obtain⟨R,hR⟩:∃ R,placeC D l 12 (vac D kind (last l) d)=R:=⟨_,rfl⟩;rw[hR] at cP ⊢;have hv:∃ v1 v2 v3 v4,pv A l d R=.agg #[.int .i64 v1,.pointer v2,.string v3,.bool v4]:=by
  cases R with
  | error e=>exact⟨_,_,_,_,rfl⟩
  | ok m=>
    obtain⟨pp,hpp⟩:=ptr_form (pa A m);exact⟨m,pp,last l,d,by show plv m (pa A m) (last l) d=_;unfold plv;rw[hpp]⟩
 obtain⟨v1,v2,v3,v4,hv⟩:=hv;rw[hv] at cP ⊢;obtain⟨z,hz⟩:∃ z,er R=z:=⟨_,rfl⟩;rw[hz] at cP ⊢;clear h hl hR hv hz hK;go_enter func141,ntmps141
 go_wp2_with fail
 refine cP.out.mono ?_;rintro e w1 ⟨rfl,b1⟩;have n1:Blk w1 (w.heap.size+2) 183 [.int .i64 0,.pointer none,.string ⟨#[]⟩,.bool false]:=(Blk.new _ _ _ (by simp)).keep b1;have c0:=n1.cell (j:=0) rfl;have c1:=n1.cell (j:=1) rfl;have c2:=n1.cell (j:=2) rfl;have c3:=n1.cell (j:=3) rfl;have f1:=n1.fz;have N1:=Wd (blk_set4 n1 (a':=.int .i64 v1) (b':=.pointer v2) (c':=.string v3) (d':=.bool v4));have B5:=Wd (below4 (b0.trans (b1.mono b0.size)) (g:=w.heap.size+2) (by simp) (.int .i64 v1) (.pointer v2) (.string v3) (.bool v4));clear b1 n1 cP b0;go_wp2_with fail
 exact bodyPost_ret (res_place results141 _ _ rfl N1.out) rfl ⟨rfl,B5.out⟩
end
end NT
end Go.Proofs.YtfffibepcdlldaaGreat

namespace Go.Proofs.YtfffibepcdlldaaGreat
open Go.ChangeShapes Go.WideShapes Go.ChangeAt Go.RowKit
namespace NT
theorem u8_under:prog.underlying 208=some (.slice 5):=by kernel_rfl
theorem u8_info:(prog.info? 5).map (fun i=>(i.zero,i.size,i.bytes))=some (some (.int .u8 0),1,1):=by kernel_rfl
theorem pu8_under:prog.underlying 243=some (.pointer 5):=by kernel_rfl
theorem clone_any (s:ByteArray)(w:World)(hlim:s.size<=281474976710656) :
 Calls prog 189 #[.string s] w fun e w'=>e=.returned (.string s)/\Below w.heap.size w w':=by
 by_cases h0:s.size=0
 ·have hs:s=⟨#[]⟩:=ByteArray.ext (Array.eq_empty_of_size_eq_zero h0);subst hs;go_enter func189,ntmps189
  go_wp2_with fail
  go_ret
  exact⟨rfl,Below.refl _ _⟩
 ·obtain⟨i0,hi,hz0,hz1,hz2⟩:=info_parts u8_info;have hinfo:(prog.info? 5).map (·.size)=some 1:=by rw[hi];simp[hz1]
  have hco:prog.cellsOf 5=1:=by simp[Program.cellsOf,hi,hz1]
  obtain⟨N,hN⟩:∃ N,N=madeCells (Value.int .u8 0).cells (((s.size:Nat):Int).toNat*i0.size):=⟨_,rfl⟩;have hNs:N.size=s.size:=by rw[hN,size_madeCells,hz1];simp
  have hmk:∀ W:World,(Instr.makeSlice 208 (.int .i64 (s.size:Int)) (.int .i64 (s.size:Int))).run prog W=.ok (.slice (some ⟨W.heap.size,0,none⟩) s.size s.size) (W.alloc (.cells N 5)):=fun W=>by
   have h:=run_make (P:=prog) W 208 5 i0 (.int .u8 0) u8_under hi hz0 .i64 .i64 (s.size:Int) (s.size:Int) (by omega) (by omega) (by rw[hz2];omega) (by omega);rw[<-hN] at h;simpa using h
  clear hN;have hcp:=Lib.run_copy_row_string (P:=prog) (w.alloc (.cells N 5)) 208 9 3 5 w.heap.size 0 s.size s.size s N 5 u8_under hinfo (heap_alloc_new w _) (Nat.le_refl _) (by omega);obtain⟨Y,hY⟩:∃ Y,Y=(N.toList.take 0 ++ Lib.byteCells s.data.toList ++ N.toList.drop (0+s.size)).toArray:=⟨_,rfl⟩;rw[<-hY] at hcp;have hYl:Y.toList=Lib.byteCells s.data.toList:=by
   rw[hY,List.toList_toArray,List.take_zero,List.nil_append,List.drop_of_length_le (by rw[Array.length_toList];omega),List.append_nil]
  have hYs:Y.size=s.size:=by rw[<-Array.length_toList,hYl,Lib.byteCells_length,<-Lib.size_eq]
  have hgY:((w.alloc (.cells N 5)).setRow w.heap.size Y).heap[w.heap.size]? = some (.cells Y 5 (0,0)):=setRow_heap _ _ N _ 5 (0,0) (heap_alloc_new w _);have hne:s.data.toList≠[]:=fun e=>h0 (by rw[Lib.size_eq,e];rfl);have hUS:=Lib.run_unsafeString_row (P:=prog) ((w.alloc (.cells N 5)).setRow w.heap.size Y) 243 3 9 5 pu8_under hco w.heap.size Y.size (by unfold World.shape?;rw[hgY]) s.data.toList hne (by rw[<-Lib.size_eq];omega) (by rw[<-Lib.size_eq];omega)
   (fun j x hx=>Lib.cells_of_row hgY Y.size j _ (by rw[List.take_of_length_le (by rw[Array.length_toList];exact Nat.le_refl _),hYl];simp[Lib.byteCells,hx]))
  rw[<-Lib.size_eq] at hUS;clear hY;go_enter func189,ntmps189
  go_wp2
  go_ret
  have hb1:Below w.heap.size w (w.alloc (.cells N 5)):=(Below.refl _ w).alloc (Nat.le_refl _) _;have hb2:Below w.heap.size (w.alloc (.cells N 5)) ((w.alloc (.cells N 5)).setRow w.heap.size Y):=⟨rfl,rfl,rfl,by simp,fun k hk=>setRow_other _ _ _ _ (by omega)⟩;exact⟨rfl,Lib.below_freeze (hb1.trans hb2) (p:=⟨w.heap.size,0,none⟩) (Nat.le_refl _) _⟩
theorem Clone_any (s:ByteArray)(w:World)(hlim:s.size<=281474976710656) :
 Calls prog 174 #[.string s] w fun e w'=>e=.returned (.string s)/\Below w.heap.size w w':=by
 have c:=Wd (clone_any s w hlim);go_enter func174,ntmps174
 go_wp2_with fail
 refine c.out.mono ?_;rintro e w1 ⟨rfl,b1⟩;go_wp2_with fail
 go_ret
 exact⟨rfl,b1⟩
end NT
end Go.Proofs.YtfffibepcdlldaaGreat

namespace Go.Proofs.YtfffibepcdlldaaGreat
open Go.ChangeShapes Go.WideShapes Go.ChangeAt Go.RowKit Go.Maps
namespace NT
open IN (Keeps)
def One (m k:Nat)(o:Obj):Prop:=k=m/\∃ es c,o=.map es c
def OneD (g k:Nat)(o:Obj):Prop:=k=g/\∃ c s,o=.cells c 88 s
theorem remove_any (base g m:Nat)(u:Int)(pu:Option Nat)(M:ByteArray->Option (Int×Option Nat))(k:ByteArray)(hk:NS.Sm k)(w:World)(h:DB w g u pu m M)(hb:base<=m) :
 Calls prog 167 #[.pointer (some ⟨g,0,none⟩),.string k] w fun e w'=>e=.returned (.tuple #[])/\NS.MB w' m (NS.upd M k none)/\Keeps base (One m) w w':=by
 have c2:=h.1.cell (j:=2) rfl;have hd:=fun ty=>h.2.del k hk ty;obtain⟨es,c,hm⟩:=h.2.obj;have hd2:∃ w2,(∀ ty,(Builtin.delete_ #[86,9] ty #[.map (some m),.string k]).run prog w=.ok (.tuple #[]) w2)/\NS.MB w2 m (NS.upd M k none)/\w.grownBy w2 (some m):=by
  obtain⟨w2,h1,h2,h3,-⟩:=hd 0;refine⟨w2,fun ty=>?_,h2,h3⟩;exact h1
 obtain⟨w2,h1,h2,h3⟩:=hd2;have hK:=Wd ((Keeps.refl base (One m) w).grown hm ⟨rfl,_,_,rfl⟩ hb h3);have h2:=Wd h2;clear h hd hm h3;go_enter func167,ntmps167
 go_wp2_with fail
 go_end0
 exact⟨rfl,h2.out,hK.out⟩
theorem put_any (base g m:Nat)(u:Int)(pu:Option Nat)(M:ByteArray->Option (Int×Option Nat))(k:ByteArray)(hk:k.size<=281474976710656)(n:Int)(x:Option Nat)(w:World)(h:DB w g u pu m M)(hb:base<=m)(hfew:∀ ss,NS.Nums M ss->ss.length<65536) :
 Calls prog 143 #[.pointer (some ⟨g,0,none⟩),.string k,NS.nv (n,x)] w fun e w'=>e=.returned (.tuple #[])/\NS.MB w' m (NS.upd M k (some (n,x)))/\Keeps base (One m) w w':=by
 have hk2:NS.Sm k:=by unfold NS.Sm maxLen;omega
 have cC:=fun w=>Wd (Clone_any k w hk);have b0:Below w.heap.size w (w.alloc (.cells #[.int .i64 n,IS.ptr x] 84)):=(Below.refl _ w).alloc (Nat.le_refl _) _;have hlow:base<=w.heap.size:=Nat.le_trans hb (Nat.le_of_lt h.2.lt);have fin:∀ w1,Below (w.alloc (.cells #[.int .i64 n,IS.ptr x] 84)).drew.heap.size (w.alloc (.cells #[.int .i64 n,IS.ptr x] 84)).drew w1->w1.cell? ⟨g,2,none⟩=some (.map (some m))/\w1.cell? ⟨w.heap.size,0,none⟩=some (.int .i64 n)/\w1.cell? ⟨w.heap.size,1,none⟩=some (IS.ptr x)/\∃ w2,(Instr.mapUpdate 86 (.map (some m)) (.string k) (NS.nv (n,x))).run prog w1=.ok () w2/\Hid (NS.MB w2 m (NS.upd M k (some (n,x)))/\Keeps base (One m) w w2):=fun w1 b1=>by
  have b1':Below w.heap.size w w1:=b0.trans ((bundrew b1).mono b0.size);have h1:=h.keep b1';have n1:Blk w1 w.heap.size 84 [.int .i64 n,IS.ptr x]:=(Blk.new _ _ _ rfl).keep (bundrew b1);obtain⟨w2,r1,r2,r3,-⟩:=h1.2.put k (n,x) hk2 hfew;obtain⟨es,c,hm⟩:=h1.2.obj;exact⟨h1.1.cell (j:=2) rfl,n1.cell (j:=0) rfl,n1.cell (j:=1) rfl,w2,r1,Wd ⟨r2,(Keeps.new b1' hlow).grown hm ⟨rfl,_,_,rfl⟩ hb r3⟩⟩
 have c2:=fun o=>(h.1.alloc o).cell (j:=2) rfl;unfold NS.nv at fin ⊢;obtain⟨pp,hpp⟩:=ptr_form x;simp only[hpp] at fin ⊢;replace fin:=Wd fin;clear h b0 hpp;go_enter func143,ntmps143
 go_wp2_with fail
 go_region_with (go_at_call 174;refine (cC _).out.mono ?_;rintro e w1 ⟨rfl,b1⟩;obtain⟨d2,d0,d1,w2,hrun,hpost⟩:=fin.out w1 b1;clear b1)
 all_goals
  go_end0
  exact⟨rfl,hpost.out.1,hpost.out.2⟩
theorem newMB (w:World){x:Nat}(hx:x=w.heap.size):NS.MB (w.alloc (.map #[] 0)) x (fun _=>none):=by subst hx;exact NS.MB.new w
theorem res_node1 {fn:Func}{r:Tmp}(hres:fn.results=#[.cell r 84])(tmps:Array Value)(w:World){g:Nat}{n p:Value}(hr:tmps.getD r undef=.pointer (some ⟨g,0,none⟩))(h:Blk w g 84 [n,p]) :
 (results fn tmps).run prog w=.ok (.agg #[n,p]) w:=by
 have h0:=h.cell (j:=0) rfl;have h1:=h.cell (j:=1) rfl;rw[Array.getD_eq_getD_getElem?] at hr;simp[results,hres,go_sem,hr,h0,h1]
theorem newNode_file (n:Int)(u:Int)(pp:Option Addr)(w:World) :
 Calls prog 32 #[.int .i64 n,.int .i64 1,.agg #[.int .i64 u,.pointer pp]] w fun e w'=>e=.returned (NS.nv (n,none))/\Below w.heap.size w w':=by
 go_enter func32,ntmps32
 go_wp2_with fail
 exact bodyPost_ret (res_node1 results32 _ _ rfl ((Blk.new _ _ [.int .i64 n,.pointer none] (by simp)).alloc _)) rfl ⟨rfl,new3 _ _ _ _⟩
theorem newNode_dir (n:Int)(u:Int)(pp:Option Addr)(w:World) :
 Calls prog 32 #[.int .i64 n,.int .i64 2,.agg #[.int .i64 u,.pointer pp]] w fun e w'=>∃ g m,e=.returned (.agg #[.int .i64 n,.pointer (some ⟨g,0,none⟩)])/\w.heap.size<=g/\w.heap.size<=m/\g≠m/\Blk w' g 88 [.int .i64 u,.pointer pp,.map (some m)]/\NS.MB w' m (fun _=>none)/\Below w.heap.size w w':=by
 have hmk:∀ W:World,(Instr.makeMap 86 none).run prog W=.ok (.map (some W.heap.size)) (W.alloc (.map #[] 0)):=fun W=>by kernel_rfl
 go_enter func32,ntmps32
 go_wp2_with fail
 refine bodyPost_ret (res_node1 results32 _ _ rfl ((((Blk.new _ _ [.int .i64 n,.pointer (some ⟨w.heap.size+1+1+1+1,0,none⟩)] (by simp)).alloc _).alloc _).alloc _)) rfl ?_;exact⟨w.heap.size+1+1+1+1,w.heap.size+1+1+1,rfl,by omega,by omega,by omega,Blk.new _ _ [.int .i64 u,.pointer pp,.map (some (w.heap.size+1+1+1))] (by simp),(newMB _ (by simp)).alloc _,((new3 w _ _ _).alloc (by simp;omega) _).alloc (by simp;omega) _⟩
end NT
namespace NT
open IN (Keeps)
def FT (A:Int->Option (Nat×Nat))(mb:Nat)(k:Nat)(o:Obj):Prop:=IN.PT mb k o∨∃ n g m,A n=some (g,m)/\(OneD g k o∨One m k o)
theorem keeps_wide {B:Nat}{T U:Nat->Obj->Prop}{w w':World}(h:Keeps B T w w')(hTU:∀ k o,w.heap[k]? = some o->T k o->U k o):Keeps B U w w':=
 ⟨h.os,h.tape,h.output,h.size,h.low,fun k o ho hU=>h.block k o ho fun hT=>hU (hTU k o ho hT)⟩
section
variable {base:Nat}{w w':World}{tg sg mb:Nat}{A:Int->Option (Nat×Nat)}{D:Ds}
theorem keeps_store (h:Keeps base (IN.PT mb) w w'):Keeps base (FT A mb) w w':=keeps_wide h fun k o _ hT=>.inl hT
theorem keeps_one {n:Int}{g m:Nat}(hA:A n=some (g,m))(h:Keeps base (One m) w w'):Keeps base (FT A mb) w w':=keeps_wide h fun k o _ hT=>.inr ⟨n,g,m,hA,.inr hT⟩
theorem TM.neq (h:TM base w tg sg mb A D){n:Int}{g m:Nat}(hA:A n=some (g,m)):g≠m/\tg≠g/\tg≠m/\∀ n' g' m',A n'=some (g',m')->g'≠m/\m'≠g:=by
 obtain⟨d,hD,p,q⟩:=h.hasA hA;obtain⟨es,c,hm⟩:=q.obj;have cm:∀ {x:Nat} {e:TypeId} {l:List Value},Blk w x e l->x≠m:=fun {x e l} hx e'=>by
  subst e';unfold Blk at hx;rw[hx] at hm
  cases hm
 refine⟨cm p,IN.blk_ne h.box p (by decide),cm h.box,fun n' g' m' hA'=>?_⟩;obtain⟨d',hD',p',q'⟩:=h.hasA hA';refine⟨cm p',fun e'=>?_⟩;obtain⟨es',c',hm'⟩:=q'.obj;subst e';unfold Blk at p;rw[p] at hm'
 cases hm'
theorem TM.turn (h:TM base w tg sg mb A D){n:Int}{g m:Nat}{d:Dr}(hA:A n=some (g,m))(hD:D n=some d){l':List (ByteArray×Int)}(hm:NS.MB w' m (nm A l'))(hK:Keeps base (One m) w w'):TM base w' tg sg mb A (upd D n (some { d with l:=l' })):=by
 have hne:=h.neq hA;have hmv:∀ {x:Nat} {e:TypeId} {l:List Value},x≠m->Blk w x e l->Blk w' x e l:=fun {x e l} hx hb=>hK.block x _ hb fun h=>hx h.1;refine⟨hmv hne.2.2.1 h.box,fun n'=>?_,?_,fun n' g' m' d' hA' hD'=>?_,h.inj,h.ge⟩
 ·by_cases e:n'=n
  ·subst e;rw[upd_at,hA];simp
  ·rw[upd_ne e];exact h.dom n'
 ·by_cases e:(1:Int)=n
  ·rw[e,upd_at];simp
  ·rw[upd_ne e];exact h.root
 ·by_cases e:n'=n
  ·subst e;rw[upd_at] at hD'
   cases hD'
   rw[hA] at hA'
   cases hA'
   obtain⟨p,q⟩:=h.dir n' g m d hA hD;exact⟨hmv hne.1 p,hm⟩
  ·rw[upd_ne e] at hD';obtain⟨p,q⟩:=h.dir n' g' m' d' hA' hD';have hg:=(hne.2.2.2 n' g' m' hA').1;have hm':=(h.inj n' n g' m' g m hA' hA e).2;refine⟨hmv hg p,q.heap ?_⟩;obtain⟨es,c,ho⟩:=q.obj;exact (hK.block m' _ ho fun h=>hm' h.1).trans ho.symm
theorem nm_put (A:Int->Option (Nat×Nat))(l:List (ByteArray×Int))(k:ByteArray)(n:Int):nm A (put k n l)=NS.upd (nm A l) k (some (n,pa A n)):=by
 funext j
 unfold nm NS.upd;rw[look_put]
 by_cases e:j=k <;> simp[e]
theorem nm_del (A:Int->Option (Nat×Nat))(l:List (ByteArray×Int))(k:ByteArray):nm A (del k l)=NS.upd (nm A l) k none:=by
 funext j
 unfold nm NS.upd;rw[look_del]
 by_cases e:j=k <;> simp[e]
def Free (D:Ds)(n:Int):Prop:=∀ m d,D m=some d->d.up≠n/\∀ k,look k d.l≠some n
end
end NT
namespace NT
open IN (Keeps)
def nu:Except Int Int->Int
 | .ok n=>n
 | .error _=>0
theorem parsed {s:ByteArray}{w:World}(hs:s.size<=maxLen):Calls prog 75 #[.string s] w fun e w'=>∃ ao n cap,e=.returned (.tuple #[.agg #[.bool (PM.pA s),.slice ao n cap,.bool (PM.pD s)],.int .i64 (PM.perr s)])/\SS w' ao n cap (PM.pN s)/\Below w.heap.size w w':=
 (Parse_all s w hs).mono fun e w' h=>by
  obtain⟨v,rfl,hown,hb⟩:=h;obtain⟨ao,cap,rfl⟩:=own_form hown;exact⟨ao,_,cap,rfl,SS_own hown,hb⟩
theorem pN_sm (s:ByteArray):∀ k∈PM.pN s,NS.Sm k:=fun k hk=>by
 by_cases h:PM.perr s=0
 ·have h1:=PM.valid_comp (PM.parse_valid h).1 k hk;have h2:=((PM.comp_iff k).1 h1).1.2;unfold NS.Sm maxLen
  omega
 ·have:PM.pN s=[]:=by unfold PM.pN;rw[if_neg h]
  rw[this] at hk
  cases hk
def findR (D:Ds)(s:ByteArray):Except Int Int:=if PM.perr s=0 then find D (PM.pN s) (PM.pD s) else .error (PM.perr s)
section
variable {base:Nat}{w w':World}{tg sg mb:Nat}{A:Int->Option (Nat×Nat)}{D:Ds}
theorem Find_any (s:ByteArray)(hs:s.size<=maxLen)(w:World)(h:TM base w tg sg mb A D) :
 Calls prog 34 #[.pointer (some ⟨tg,0,none⟩),.string s] w fun e w'=>e=.returned (.tuple #[.int .i64 (nu (findR D s)),.int .i64 (er (findR D s))])/\Below w.heap.size w w':=by
 have cN:=Wd (none_some w h);have cP:=fun w=>Wd (parsed (w:=w) hs);have cF:=fun (ao:Option Addr) (n cap:Nat) (w':World) (hb:Below w.heap.size w w') (hl:SS w' ao n cap (PM.pN s))=>find_any (PM.pA s) (PM.pD s) (PM.pN s) ao n cap w' (h.keep hb) hl (pN_sm s);obtain⟨pe,hpe⟩:∃ pe,PM.perr s=pe:=⟨_,rfl⟩;have hf:findR D s=if pe=0 then find D (PM.pN s) (PM.pD s) else .error pe:=by unfold findR;rw[hpe]
 rw[hpe] at cP;generalize PM.pN s=l at cP hf cF;generalize PM.pD s=d at cP hf cF;generalize PM.pA s=a at cP cF;clear h hpe
 by_cases h0:pe=0
 ·subst h0;rw[if_pos rfl] at hf;rw[hf];generalize find D l d=R at cF;have hv:∃ v2,rv A R=.agg #[.int .i64 (nu R),.pointer v2]:=by
   cases R with
   | error e=>exact⟨_,rfl⟩
   | ok m=>
     obtain⟨pp,hpp⟩:=ptr_form (pa A m);exact⟨pp,by show NS.nv (m,pa A m)=_;unfold NS.nv;rw[hpp];rfl⟩
  obtain⟨v2,hv⟩:=hv;rw[hv] at cF;generalize nu R=v1 at cF;generalize er R=v3 at cF;replace cF:=Wd cF;clear hv hf;go_enter func34,ntmps34
  go_wp2_with fail
  refine cN.out.mono ?_;rintro e w1 ⟨rfl,b1⟩;have B1:=Wd b1;clear b1 cN;go_wp2_with fail
  refine (cP _).out.mono ?_;rintro e w2 ⟨ao,n,cap,rfl,hS,b2⟩;have p2:Blk (w2.alloc (.cells #[.bool a,.slice ao n cap,.bool d] 146)) w2.heap.size 146 [.bool a,.slice ao n cap,.bool d]:=Blk.new _ _ _ rfl;have b2':Below w.heap.size w w2:=B1.out.trans (b2.mono B1.out.size);have b3:=b2'.alloc b2'.size (.cells #[.bool a,.slice ao n cap,.bool d] 146);have cF1:=Wd (cF.out ao n cap _ b3 (hS.alloc _));have c0:=p2.cell (j:=0) rfl;have c1:=p2.cell (j:=1) rfl;have c2:=p2.cell (j:=2) rfl;have B3:=Wd b3;clear b2 b3 b2' p2 hS cF;go_wp2_with fail
  refine cF1.out.mono ?_;rintro e w3 ⟨rfl,b4⟩;go_wp2_with fail
  go_ret2
  exact⟨rfl,(B3.out.trans (b4.mono B3.out.size)).alloc (by have:=B3.out.size;have:=b4.size;omega) _⟩
 ·rw[if_neg h0] at hf;rw[hf];have hne:(pe == 0)=false:=by simpa using h0
  clear hf;go_enter func34,ntmps34
  go_wp2_with fail
  refine cN.out.mono ?_;rintro e w1 ⟨rfl,b1⟩;have B1:=Wd b1;clear b1 cN;go_wp2_with fail
  refine (cP _).out.mono ?_;rintro e w2 ⟨ao,n,cap,rfl,hS,b2⟩;have b2':Below w.heap.size w w2:=B1.out.trans (b2.mono B1.out.size);have B3:=Wd (b2'.alloc b2'.size (.cells #[.bool a,.slice ao n cap,.bool d] 146));clear b2 b2' hS;go_wp2_with fail
  go_ret2
  exact⟨rfl,B3.out⟩
end
end NT
end Go.Proofs.YtfffibepcdlldaaGreat
