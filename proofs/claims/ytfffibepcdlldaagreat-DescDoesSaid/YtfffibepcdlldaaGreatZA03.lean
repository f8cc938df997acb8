/- A part. -/
import Derived.Test.YtfffibepcdlldaaGreatZA02
import Derived.Deep.RegionHeld3
import Derived.Test.YtfffibepcdlldaaGreatRows
import Derived.WalkKit
import Derived.ProofKit
import Derived.OpenShut
import Derived.Outline
import Derived.WalkLawsBesides
import Derived.Deep.QuietTactic
import Derived.BigQuiet
import Derived.IntWalk
import Derived.Deep.RegionWith
import Derived.Laws.BitsAllLaws
import Derived.Laws.BytesArg
import Derived.Laws.CopyOwn
import Derived.Laws.AppendOwnNone
import Derived.Lib.AppendStr
set_option linter.unusedVariables false
set_option linter.unusedSimpArgs false
set_option maxRecDepth 100000
set_option maxHeartbeats 64000000
open Go.Proofs.Tryz

namespace Go.Proofs.YtfffibepcdlldaaGreat
open Go.ChangeShapes Go.WideShapes Go.ChangeAt Go.RowKit
theorem info_ext:(prog.info? 211).map (fun i=>(i.zero,i.size,i.bytes))=some (some (.agg #[.int .i64 0,.string ByteArray.empty]),2,24):=by kernel_rfl
theorem ok_nums {l:List (Int×ByteArray)}(h:EM.ok 0 l=true):l.length<=1048576/\EM.cnt l<=1048576:=by
 have:=EM.wk_cnt (EM.ok_wk h) (by decide)
 omega
theorem ok_each {l:List (Int×ByteArray)}(h:EM.ok 0 l=true)(k:Nat)(hk:k<l.length):0<l[k].2.size/\0<=l[k].1/\l[k].1+l[k].2.size<=1048576:=by
 have:=EM.wk_at (EM.ok_wk h) k hk;exact⟨this.1,this.2.1,this.2.2.1⟩
theorem end_held (a:Int)(d:ByteArray)(g:Nat)(w:World)(h1 : -9223372036854775808<=a)(h2:a+d.size<=9223372036854775807)(c0:w.cell? ⟨g,0,none⟩=some (.int .i64 a))(c1:w.cell? ⟨g,1,none⟩=some (.string d)) :
 Calls prog 158 #[.agg #[.int .i64 a,.string d]] w fun e w'=>e=.returned (.int .i64 (a+d.size))/\Below w.heap.size w w'/\w'.cell? ⟨g,0,none⟩=some (.int .i64 a)/\w'.cell? ⟨g,1,none⟩=some (.string d):=by
 have hlt:=World.block_lt_of_cell? w _ c0;refine (end_any a d w h1 h2).mono ?_;rintro e w' ⟨rfl,bel⟩;exact⟨rfl,bel,by rw[bel.cell (World.block_lt_of_cell? w _ c0)];exact c0,by rw[bel.cell (World.block_lt_of_cell? w _ c1)];exact c1⟩
theorem part_any (ao:Option Addr)(n cap:Nat)(l:List (Int×ByteArray))(lo hi:Int)(w:World)(h:XS w ao n cap l)(hv:EM.ok 0 l=true)(hlo:I64 lo)(hhi:I64 hi) :
 Calls prog 155 #[.slice ao n cap,.int .i64 lo,.int .i64 hi] w fun e w'=>∃ v,e=.returned v/\w'.ownsRow w.heap.size 211 2 v (EM.part lo hi l).length (ecl (EM.part lo hi l))/\Below w.heap.size w w':=by
 obtain⟨i0,hi0,hz0,hz1,hz2⟩:=info_parts info_ext;have hn:n<=1048576:=by have:=(ok_nums hv).1;have:=h.1;omega
 have L:=Wd h.1;have H:=Wd h;have hok:=Wd (fun k hk=>ok_each hv k hk);have hlen:=Wd (fun k=>EM.part_length lo hi (l.take k));have htk:=Wd (fun k hk=>EM.part_take lo hi l k hk);obtain⟨l1,l2⟩:=hlo;obtain⟨r1,r2⟩:=hhi;clear h hv;go_enter func155,ntmps155
 go_wp2_with fail
 go_loopw [7,14] (fun v i wr=>∃ (k m:Nat) (q:List (Int×ByteArray)),k<=n/\m<=k/\i=.int .i64 k/\Hid (EM.part lo hi (l.take k)=q/\q.length=m)/\wr.ownsRow w.heap.size 211 2 v m (ecl q)/\Below w.heap.size w wr) (fun _ i _=>n-(intOf i).toNat)
 case atStart=>exact⟨0,0,[],Nat.zero_le _,Nat.le_refl _,rfl,Wd ⟨rfl,rfl⟩,World.ownsRow_nil _ _ _ _,Below.refl _ _⟩
 case round=>
  obtain⟨k,m,q,hk,hmk,rfl,hq,hown,bel⟩:=hrel;obtain⟨ox,cx,rfl⟩:=Own.form hown
  by_cases hlt:k<n
  ·obtain⟨b1,o1,rfl,g1⟩:=(H.out.below bel (Nat.le_refl _)).at_ (by omega);have k1:k<l.length:=by rw[L.out];exact hlt
   obtain⟨e1,e2⟩:=g1 k hlt;have hft:=hok.out k k1;have hnx:=Wd (htk.out k k1);obtain⟨⟨a,d⟩,hx⟩:∃ x,l[k]=x:=⟨_,rfl⟩;simp only[hx] at e1 e2 hft hnx;obtain⟨hd,ha,had⟩:=hft;clear hx g1 k1;have hend:=Wd (fun w g c0 c1=>end_held a d g w (by omega) (by omega) c0 c1);obtain⟨A,hA⟩:∃ A,(if a<lo then lo else a)=A:=⟨_,rfl⟩;obtain⟨B,hB⟩:∃ B,(if hi<a+d.size then hi else a+d.size)=B:=⟨_,rfl⟩;have HA:Hid (A=max a lo):=by show _=_;rw[<-hA];split <;> omega
   have HB:Hid (B=min (a+d.size) hi):=by show _=_;rw[<-hB];split <;> omega
   have A1:0<=A-a:=by have:=HA.out;omega
   have A2 : -9223372036854775808<=A/\A<=9223372036854775807:=by have:=HA.out;omega
   have B2 : -9223372036854775808<=B/\B<=9223372036854775807:=by have:=HB.out;omega
   have B1:B-a<=d.size:=by have:=HB.out;omega
   have hpc:Hid (EM.piece lo hi (a,d)=if A<B then some (A,d.extract (A-a).toNat (B-a).toNat) else none):=by
    show _=_
    rw[HA.out,HB.out];rfl
   have hw1:=XB.new wr a d rfl;have u0:=hw1.c0;have u1:=hw1.c1;go_wp2_with fail
   go_region_held3 (fun w'=>w'.cell? ⟨wr.heap.size,0,none⟩=some (.int .i64 a)/\w'.cell? ⟨wr.heap.size,1,none⟩=some (.string d)) (go_keep)
    (first|(go_at_call 158;refine (hend.out _ wr.heap.size (by assumption) (by assumption)).mono ?_;rintro e w' ⟨rfl,bel2,k0,k1⟩))
   all_goals
    have bel3:=(bel.alloc bel.size (.cells #[.int .i64 a,.string d] 211)).trans ((Own.bundrew bel2).mono (bel.alloc bel.size _).size);have hown3:=Own.below (hown.alloc (.cells #[.int .i64 a,.string d] 211)) (Own.bundrew bel2);clear hA hB hend u0 u1 hw1 bel2 e1 e2 bel hown
    by_cases hAB:A<B
    ·obtain⟨p,hp⟩:∃ p,p=d.extract (A-a).toNat (B-a).toNat:=⟨_,rfl⟩;have hsl:∀ w,(Instr.slice 9 (.string d) (some (.int .i64 (A-a))) (some (.int .i64 (B-a))) none).run prog w=.ok (.string p) w:=fun w=>by
      rw[run_slice_string w _ d _ _ _ _ underlying9 (by omega) (by omega) (by omega),hp]
     have hnext:Hid (EM.part lo hi (l.take (k+1))=q ++ [(A,p)]):=by
      show _=_
      rw[hnx.out,hpc.out,if_pos hAB,hq.out.1,<-hp];first|done|rfl
     have hm:Hid (m=q.length):=hq.out.2.symm;clear hp hnx hpc hq;go_wp2_with (at_builtin;apply Hid.out)
     refine Wd ?_;refine wpList_append_own_wide _ rfl (.tmp 29) (.tmp 43) 123 rfl w.heap.size 211 i0 (.agg #[.int .i64 0,.string ByteArray.empty]) 2 24 underlying123 hi0 hz0 hz1 hz2 rfl (by decide) _ m (ecl q) rfl (hown3.alloc _) ⟨w'.heap.size,0,none⟩ 1 1 [.int .i64 A,.string p] rfl rfl (Own.cells_two _ _ _ _ _) (by intro u hu;simp at hu;rcases hu with rfl|rfl <;> rfl) (by unfold maxLen;omega) (by omega) (by simp;have:=bel3.size;omega) ?_
     intro v2 w2 hown4 hgrow _;obtain⟨ao2,cap2,rfl⟩:=Own.form hown4;have bel4:=(bel3.alloc bel3.size _).grown hgrow (by simp;have:=bel3.size;omega) (fun k h=>Own.ge hown3 k h);clear k0 k1 hown3 bel3 hgrow;go_wp2_with fail
     go_roundw
     case rel=>exact⟨k+1,m+1,q ++ [(A,p)],by omega,by omega,by go_num,Wd ⟨hnext.out,by simp[hm.out]⟩,(by rw[ecl_append];exact hown4),bel4⟩
     case measure=>simp[intOf];omega
    ·have hnext:Hid (EM.part lo hi (l.take (k+1))=q):=by
      show _=_
      rw[hnx.out,hpc.out,if_neg hAB,hq.out.1];simp
     have hm:Hid (m=q.length):=hq.out.2.symm;clear hnx hpc hq;go_wp2_with fail
     go_roundw
     case rel=>exact⟨k+1,m,q,by omega,by omega,by go_num,Wd ⟨hnext.out,hm.out.symm⟩,hown3,bel3⟩
     case measure=>simp[intOf];omega
  ·obtain rfl:k=n:=by omega
   have hh:Hid (EM.part lo hi l=q):=by
    have:=hq.out.1;rwa[List.take_of_length_le (by rw[L.out];exact Nat.le_refl _)] at this
   have hm:=Wd hq.out.2;clear hq;go_wp2_with fail
   go_ret
   refine⟨_,rfl,?_,bel⟩;rw[hh.out,hm.out];exact hown
def cel (l:List UInt8):List Value:=l.map fun b=>Value.int .u8 b.toNat
theorem cel_length (l:List UInt8):(cel l).length=l.length:=by simp[cel]
theorem cel_append (a b:List UInt8):cel (a ++ b)=cel a ++ cel b:=by simp[cel]
theorem cel_get (l:List UInt8)(j:Nat):(cel l)[j]? = (l[j]?).map fun b=>Value.int .u8 b.toNat:=by simp[cel]
def BS (w:World)(ao:Option Addr)(n cap:Nat)(l:List UInt8):Prop:=
 l.length=n/\n<=cap/\cap<=maxLen/\(ao=none->cap=0)/\∀ a,ao=some a->∀ j u,(cel l)[j]? = some u->w.cell? (a.add j)=some u
theorem BS.below {w w':World}{ao:Option Addr}{n cap:Nat}{l:List UInt8}(h:BS w ao n cap l){B:Nat}(hb:Below B w w')(hB:w.heap.size<=B):BS w' ao n cap l:=by
 refine⟨h.1,h.2.1,h.2.2.1,h.2.2.2.1,fun a ha j u hu=>?_⟩;have hc:=h.2.2.2.2 a ha j u hu;rw[hb.cell (Nat.lt_of_lt_of_le (World.block_lt_of_cell? w _ hc) hB)];exact hc
theorem BS.nil (w:World):BS w none 0 0 []:=⟨rfl,Nat.le_refl _,Nat.zero_le _,fun _=>rfl,fun _ h=>by cases h⟩
theorem BS.cut {w:World}{ao:Option Addr}{n cap:Nat}{l:List UInt8}(h:BS w ao n cap l){lo hi:Nat}(h1:lo<=hi)(h2:hi<=n) :
 BS w (if cap=lo then ao else ao.map (·.add (lo*1))) (hi-lo) (cap-lo) ((l.take hi).drop lo):=by
 obtain⟨hl,hnc,hcm,hnone,hc⟩:=h;refine⟨by simp;omega,by omega,by omega,fun hn=>?_,fun a ha j u hu=>?_⟩
 ·split at hn
  ·have:=hnone hn;omega
  ·cases ao with
   | none=>have:=hnone rfl;omega
   | some x=>simp at hn
 ·have hj:j<hi-lo:=by
   have:=(List.getElem?_eq_some_iff.1 hu).1;rw[cel_length] at this;simp at this;omega
  rw[if_neg (by omega)] at ha;obtain⟨x,rfl,rfl⟩:=Option.map_eq_some_iff.1 ha
  show w.cell? ((x.add (lo*1)).add j)=some u
  rw[Addr.add_add,Nat.mul_one];refine hc x rfl (lo+j) u ?_;rw[cel_get] at hu ⊢;rw[<-hu,List.getElem?_drop,List.getElem?_take,if_pos (by omega)]
def strOf (l:List UInt8):ByteArray:=⟨l.toArray⟩
theorem strOf_size (l:List UInt8):(strOf l).size=l.length:=by simp[strOf,ByteArray.size]
theorem strOf_list (l:List UInt8):(strOf l).data.toList=l:=by simp[strOf]
theorem strOfNums_cel (l:List UInt8):strOfNums (l.map fun b=>((b.toNat:Nat):Int))=strOf l:=by
 simp only[strOfNums,strOf,List.map_map]
 congr 2
 refine (List.map_congr_left fun b _=>?_).trans (List.map_id l);simp
theorem run_conv {P:Program}{w:World}{ao:Option Addr}{n cap:Nat}{l:List UInt8}(src e:TypeId)(hs:P.underlying src=some (.slice e))(he:P.underlying e=some (.int .u8))(dst:TypeId)(hd:P.underlying dst=some .string)(h:BS w ao n cap l) :
 (convert src dst (.slice ao n cap)).run P w=.ok (.string (strOf l)) w:=by
 obtain⟨hl,hnc,hcm,hnone,hc⟩:=h
 cases ao with
 | none=>
   have h0:=hnone rfl;have:l=[]:=List.eq_nil_of_length_eq_zero (by omega);subst this;rw[run_convert_bytes_nil w src e hs he n cap dst hd]
   rfl
 | some x=>
   have hl2:(loadCells x n).run P w=.ok (cel l).toArray w:=by
    have:=run_loadCells_list (P:=P) w x (cel l) (fun j v hj=>hc x rfl j v hj);rw[cel_length,hl] at this;exact this
   have hl3:(loadCells x n).run P w=.ok ((l.map fun b=>((b.toNat:Nat):Int)).map (Value.int .u8)).toArray w:=by
    rw[hl2];simp[cel,Function.comp_def]
   rw[run_convert_bytes_string w src dst e _ n cap hs he hd,run_bytesToString w x n cap _ hl3,foldl_push_bytes,<-strOfNums_cel];simp[strOfNums,ByteArray.empty,ByteArray.emptyWithCapacity]
   rfl
def le:Nat->Nat->List UInt8
 | 0,_=>[]
 | m+1,k=>UInt8.ofNat (k%256) :: le m (k/256)
def num:List UInt8->Nat
 | []=>0
 | b :: r=>b.toNat+256*num r
end Go.Proofs.YtfffibepcdlldaaGreat
