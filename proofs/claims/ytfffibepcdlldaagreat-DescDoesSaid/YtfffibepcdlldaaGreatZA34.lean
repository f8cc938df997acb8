/- A part. -/
import Derived.Test.YtfffibepcdlldaaGreatZA33
import Derived.Test.YtfffibepcdlldaaGreatZA10
import Derived.Laws.Tables
import Derived.Laws.Rows
import Derived.BigQuiet
import Derived.Test.YtfffibepcdlldaaGreatZA31
import Derived.Test.YtfffibepcdlldaaGreatZA08
import Derived.ShutString
import Derived.ChangeOld
set_option linter.unusedVariables false
set_option linter.unusedSimpArgs false
set_option maxRecDepth 100000
set_option maxHeartbeats 64000000
open Go.Proofs.Tryz

namespace Go.Proofs.YtfffibepcdlldaaGreat
open Go.ChangeShapes Go.WideShapes Go.ChangeAt Go.RowKit Go.Maps
namespace DC
open IS (I64 upd)
open IN (Keeps lt_of_some)
def VT (k:Nat)(o:Obj):Prop:=(∃ c ty s,o=.cells c ty s/\(ty=80∨ty=143∨ty=88∨ty=130∨ty=106∨ty=96))∨∃ es c,o=.map es c
def DS (K:Cn)(q:Nat)(S:Sm)(D:NT.Ds)(P:Ps)(O:Ou)(w:World):Prop:=∃ A,DW K q A S D P O w
def DO (K:Cn)(q:Nat)(S:Sm)(D:NT.Ds)(P:Ps)(O:Ou)(w w':World):Prop:=DS K q S D P O w'/\Keeps K.base VT w w'
section
variable {K:Cn}{q:Nat}{A:Am}{S:Sm}{D:NT.Ds}{P:Ps}{O:Ou}{w w':World}{n:Nat}
theorem VT_of (h:Keeps K.base (UT K A) w w'):Keeps K.base VT w w':=NT.keeps_wide h fun k o _ hT=>by
 rcases hT with (h1|⟨n,g,m,-,h1|h1⟩)|⟨c,s,rfl⟩|⟨c,s,rfl⟩|⟨c,s,rfl⟩|⟨-,es,c,rfl⟩
 ·rcases h1 with ⟨c,s,rfl⟩|⟨c,s,rfl⟩|⟨-,es,c,rfl⟩
  ·exact .inl ⟨_,_,_,rfl,.inl rfl⟩
  ·exact .inl ⟨_,_,_,rfl,.inr (.inl rfl)⟩
  ·exact .inr ⟨_,_,rfl⟩
 ·obtain⟨-,c,s,rfl⟩:=h1;exact .inl ⟨_,_,_,rfl,.inr (.inr (.inl rfl))⟩
 ·obtain⟨-,es,c,rfl⟩:=h1;exact .inr ⟨_,_,rfl⟩
 ·exact .inl ⟨_,_,_,rfl,.inr (.inr (.inr (.inl rfl)))⟩
 ·exact .inl ⟨_,_,_,rfl,.inr (.inr (.inr (.inr (.inl rfl))))⟩
 ·exact .inl ⟨_,_,_,rfl,.inr (.inr (.inr (.inr (.inr rfl))))⟩
 ·exact .inr ⟨_,_,rfl⟩
theorem do_of {S':Sm}{D':NT.Ds}{P':Ps}{O':Ou}(h:DQ K q A S' D' P' O' w w'):DO K (q+2) S' D' P' O' w w':=⟨h.1,VT_of h.2⟩
theorem DS.keep (h:DS K q S D P O w)(hb:Below w.heap.size w w'):DS K q S D P O w':=by
 obtain⟨A,h⟩:=h;exact⟨A,h.keep hb⟩
theorem DS.more (h:DS K q S D P O w){q':Nat}(hq:q<=q')(hq':q'<60000):DS K q' S D P O w:=by
 obtain⟨A,h⟩:=h;exact⟨A,h.more hq hq'⟩
theorem DS.low (h:DS K q S D P O w):K.base<=w.heap.size:=by
 obtain⟨A,M,β,-,h⟩:=h;exact h.low
theorem DS.di (h:DS K q S D P O w):DI K.files K.opens S P O []:=by
 obtain⟨A,M,β,-,h⟩:=h;exact h.di
theorem DS.ti (h:DS K q S D P O w):NT.TI K.I q NT.e0 S D:=by
 obtain⟨A,M,β,-,h⟩:=h;exact h.dp.tw.ti
theorem DS.fine (h:DS K q S D P O w):IN.Fine K.I K.L K.B q S/\K.I<=4096:=by
 obtain⟨A,M,β,-,h⟩:=h;obtain⟨M1,hps⟩:=h.dp.tw.ps;exact⟨hps.fn,hps.lim.1⟩
theorem add_s (pid:Int)(w:World)(h:DS K q S D P O w)(hp:I64 pid)(hq:q<59998) :
 Calls prog 14 #[.pointer (some ⟨K.g,0,none⟩),.int .i64 pid] w fun e w'=>e=.returned (.int .i64 (addR K.files P pid).1)/\DO K (q+2) S D (addR K.files P pid).2 O w w':=by
 obtain⟨A,h⟩:=h;exact (Add_all pid w h hp hq).mono fun e w' hh=>⟨hh.1,do_of hh.2⟩
theorem open_s (pid:Int)(p:ByteArray)(fl:Int)(w:World)(h:DS K q S D P O w)(hp:I64 pid)(hpl:p.size<=maxLen)(hfl:I64 fl)(hq:q<59998) :
 Calls prog 23 #[.pointer (some ⟨K.g,0,none⟩),.int .i64 pid,.string p,.int .i64 fl] w fun e w'=>e=.returned (.tuple #[.int .i64 (opnR K.I K.files K.opens S D P O pid p fl).1.1,.int .i64 (opnR K.I K.files K.opens S D P O pid p fl).1.2])/\DO K (q+2) (opnR K.I K.files K.opens S D P O pid p fl).2.1 (opnR K.I K.files K.opens S D P O pid p fl).2.2.1 (opnR K.I K.files K.opens S D P O pid p fl).2.2.2.1 (opnR K.I K.files K.opens S D P O pid p fl).2.2.2.2 w w':=by
 obtain⟨A,h⟩:=h;exact (Open_all pid p fl w h hp hpl hfl hq).mono fun e w' hh=>⟨hh.1,do_of hh.2⟩
theorem close_s (pid fd:Int)(w:World)(h:DS K q S D P O w)(hp:I64 pid)(hq:q<59998) :
 Calls prog 24 #[.pointer (some ⟨K.g,0,none⟩),.int .i64 pid,.int .i64 fd] w fun e w'=>e=.returned (.int .i64 (clsR S P O pid fd).1)/\DO K (q+2) (clsR S P O pid fd).2.1 D (clsR S P O pid fd).2.2.1 (clsR S P O pid fd).2.2.2 w w':=by
 obtain⟨A,h⟩:=h;exact (Close_all pid fd w h hp hq).mono fun e w' hh=>⟨hh.1,do_of hh.2⟩
theorem dup_s (pid fd:Int)(w:World)(h:DS K q S D P O w)(hp:I64 pid)(hq:q<59998) :
 Calls prog 25 #[.pointer (some ⟨K.g,0,none⟩),.int .i64 pid,.int .i64 fd] w fun e w'=>e=.returned (.tuple #[.int .i64 (dupR K.files P O pid fd).1.1,.int .i64 (dupR K.files P O pid fd).1.2])/\DO K (q+2) S D (dupR K.files P O pid fd).2.1 (dupR K.files P O pid fd).2.2 w w':=by
 obtain⟨A,h⟩:=h;exact (Dup_all pid fd w h hp hq).mono fun e w' hh=>⟨hh.1,do_of hh.2⟩
theorem read_s (pid fd n:Int)(w:World)(h:DS K q S D P O w)(hp:I64 pid)(hn:I64 n)(hq:q<59998) :
 Calls prog 26 #[.pointer (some ⟨K.g,0,none⟩),.int .i64 pid,.int .i64 fd,.int .i64 n] w fun e w'=>e=.returned (.tuple #[.string (rdR S P O pid fd n).1.1,.int .i64 (rdR S P O pid fd n).1.2])/\DO K (q+2) S D P (rdR S P O pid fd n).2 w w':=by
 obtain⟨A,h⟩:=h;exact (Read_all pid fd n w h hp hn hq).mono fun e w' hh=>⟨hh.1,do_of hh.2⟩
theorem write_s (pid fd:Int)(s:ByteArray)(w:World)(h:DS K q S D P O w)(hp:I64 pid)(hs:s.size<=maxLen)(hq:q<59998) :
 Calls prog 27 #[.pointer (some ⟨K.g,0,none⟩),.int .i64 pid,.int .i64 fd,.string s] w fun e w'=>e=.returned (.tuple #[.int .i64 (wriR K.I K.B S P O pid fd s).1.1,.int .i64 (wriR K.I K.B S P O pid fd s).1.2])/\DO K (q+2) (wriR K.I K.B S P O pid fd s).2.1 D P (wriR K.I K.B S P O pid fd s).2.2 w w':=by
 obtain⟨A,h⟩:=h;exact (Write_all pid fd s w h hp hs hq).mono fun e w' hh=>⟨hh.1,do_of hh.2⟩
theorem seek_s (pid fd n wh:Int)(w:World)(h:DS K q S D P O w)(hp:I64 pid)(hn:I64 n)(hq:q<59998) :
 Calls prog 28 #[.pointer (some ⟨K.g,0,none⟩),.int .i64 pid,.int .i64 fd,.int .i64 n,.int .i64 wh] w fun e w'=>e=.returned (.tuple #[.int .i64 (skR S P O pid fd n wh).1.1,.int .i64 (skR S P O pid fd n wh).1.2])/\DO K (q+2) S D P (skR S P O pid fd n wh).2 w w':=by
 obtain⟨A,h⟩:=h;exact (Seek_all pid fd n wh w h hp hn hq).mono fun e w' hh=>⟨hh.1,do_of hh.2⟩
theorem trunc_s (pid fd n:Int)(w:World)(h:DS K q S D P O w)(hp:I64 pid)(hn:I64 n)(hq:q<59998) :
 Calls prog 29 #[.pointer (some ⟨K.g,0,none⟩),.int .i64 pid,.int .i64 fd,.int .i64 n] w fun e w'=>e=.returned (.int .i64 (truR S P O pid fd n).1)/\DO K (q+2) (truR S P O pid fd n).2 D P O w w':=by
 obtain⟨A,h⟩:=h;exact (Trunc_all pid fd n w h hp hn hq).mono fun e w' hh=>⟨hh.1,do_of hh.2⟩
theorem tree_s {S':Sm}{D':NT.Ds}{r:Int}{e:Ending}{M:Int->Option Nat}{β:Nat->Nat}(hm:MB w K.b q M)(hd:DM K q A S D M β P O [] w)(hi:DI K.files K.opens S' P O [])(hq:q<59998)(h:e=.returned (.int .i64 r)/\NT.TQ K.base K.tg K.sg K.mb K.I K.L K.B q (q+1) A S' D' w w'):e=.returned (.int .i64 r)/\DO K (q+2) S' D' P O w w':=by
 obtain⟨rfl,⟨A',hs,ht⟩,hk⟩:=h;exact⟨rfl,⟨A',M,β,(hd.dp.mbTree hm hk).le (by omega),(hd.dp.tree hk hs (TW_q ht (q':=q+1) (by omega)) hm.lt).more (by omega),hi,by have:=hd.cap;omega⟩,VT_of (UT_tree hk)⟩
theorem unl_di (h:DI K.files K.opens S P O [])(s:ByteArray):DI K.files K.opens (NT.unlS S D s).1 P O []:=by
 unfold NT.unlS
 split
 ·exact h
 ·exact h.unlink _
theorem lnk_di (h:DI K.files K.opens S P O [])(L:Nat)(s t:ByteArray):DI K.files K.opens (NT.lnk L S D s t).2.1 P O []:=by
 unfold NT.lnk
 repeat' (first|exact h|exact h.link _ _|split)
theorem unlink_s (s:ByteArray)(hs:s.size<=maxLen)(w:World)(h:DS K q S D P O w)(hq:q<59998) :
 Calls prog 97 #[.pointer (some ⟨K.tg,0,none⟩),.string s] w fun e w'=>e=.returned (.int .i64 (NT.er (NT.unlR D s)))/\DO K (q+2) (NT.unlS S D s).1 (NT.unlS S D s).2 P O w w':=by
 obtain⟨A,M,β,hm,hd⟩:=h;exact (NT.Unlink_q s hs w hd.dp.tw (by omega)).mono fun e w' hh=>tree_s hm hd (unl_di hd.di s) hq hh
theorem link_s (s t:ByteArray)(hs:s.size<=maxLen)(ht:t.size<=maxLen)(w:World)(h:DS K q S D P O w)(hq:q<59998) :
 Calls prog 99 #[.pointer (some ⟨K.tg,0,none⟩),.string s,.string t] w fun e w'=>e=.returned (.int .i64 (NT.lnk K.L S D s t).1)/\DO K (q+2) (NT.lnk K.L S D s t).2.1 (NT.lnk K.L S D s t).2.2 P O w w':=by
 obtain⟨A,M,β,hm,hd⟩:=h;exact (NT.Link_q s t hs ht w hd.dp.tw (by omega)).mono fun e w' hh=>tree_s hm hd (lnk_di hd.di K.L s t) hq hh
theorem all_s (w:World)(h:DS K q S D P O w) :
 Calls prog 19 #[.pointer (some ⟨K.sg,0,none⟩)] w fun e w'=>∃ v,e=.returned v/\w'.ownsRow w.heap.size 65 6 v (IN.lst S K.I).length (IN.stcl (IN.lst S K.I))/\Below w.heap.size w w':=by
 obtain⟨A,M,β,hm,hd⟩:=h;obtain⟨M1,hps⟩:=hd.dp.tw.ps;exact IN.All_any w hps
end
end DC
namespace DC
open IS (I64 upd)
open IN (Keeps lt_of_some)
section
variable {K:Cn}{q:Nat}{A:Am}{S:Sm}{D:NT.Ds}{M:Int->Option Nat}{β:Nat->Nat}{P:Ps}{O:Ou}{R:Ls}{w w':World}{n:Nat}
theorem DP.map (h:DP K q A S D M β P O w){M0:Int->Option Nat}(hm:MB w K.b n M0)(hg:w.grownBy w' (some K.b)):DP K q A S D M β P O w':=by
 have hkk:∀ {k:Nat} {o:Obj},w.heap[k]? = some o->k≠K.b->w'.heap[k]? = w.heap[k]?:=fun {k o} hk hne=>hg.block k (lt_of_some hk) (fun e=>hne (Option.some.inj e));have nb:∀ {k:Nat} {c:Array Value} {ty:TypeId} {s:Nat×Nat},w.heap[k]? = some (.cells c ty s)->k≠K.b:=fun {k c ty s} hk e=>by
  obtain⟨es,c2,ho⟩:=hm.obj;rw[e] at hk;rw[ho] at hk;cases hk
 refine⟨⟨h.tw.tm.moved (hkk h.tw.tm.box (nb h.tw.tm.box)) (fun n g m hA=>?_),?_,h.tw.ti⟩,h.far,(hkk h.tb (nb h.tb)).trans h.tb,h.fp.moved (fun p g hM=>?_) (fun k hk=>?_),h.ge⟩
 ·obtain⟨d,-,p,qq⟩:=h.tw.tm.hasA hA;obtain⟨es,c,ho⟩:=qq.obj;exact⟨hkk p (nb p),hkk ho (h.far.2 n g m hA)⟩
 ·obtain⟨M1,hps⟩:=h.tw.ps;obtain⟨es,c,ho⟩:=IN.map_obj hps.pm.mp;refine⟨M1,hps.pm.moved (hkk hps.pm.box (nb hps.pm.box)) (hkk ho h.far.1.symm) (fun n g hM=>?_) (fun b cur hb=>hkk hb (nb hb)),hps.fn,hps.lim⟩
  cases hS:S n with
  | none=>rw[(hps.pm.dom n).2 hS] at hM;cases hM
  | some d=>obtain⟨v,hb,-⟩:=hps.pm.node n g d hM hS;exact hkk hb (nb hb)
 ·obtain⟨L,-,hp,-⟩:=h.fp.plt hM;exact hkk hp.2 (nb hp.2)
 ·obtain⟨o,ho⟩:=Option.ne_none_iff_exists'.1 hk;exact hkk (h.fp.fb k o ho) (nb (h.fp.fb k o ho).blk)
theorem wpList_delete_p {w:World} {ops:Array Oper} {rest:List Oper} {o:Oper} {a:Act} {Q:Exit->Act->World->Prop} (hg:o.guard=none) (m x:Operand) (hop:o.op=Op.call { callee:=Callee.builtin Builtin.delete,args:=#[m,x],argTypes:=#[94,3] })
 (b:Nat) (f:Int) (n:Nat) (M:Int->Option Nat) (hm:a.eval m=.map (some b)) (hx:a.eval x=.int .i64 f) (h:MB w b n M) (hf:I64 f)
 (hK:∀ w',MB w' b n (upd M f none)->w.grownBy w' (some b)->w'.heap.size=w.heap.size->wpList prog ops Q rest (a.put o.dst (.tuple #[])) w'):wpList prog ops Q (o :: rest) a w:=by
 refine wpList_plain hg fun K' hK'=>?_;obtain⟨w',hrun,r1,r2,r3⟩:=h.del f hf o.type;unfold Oper.wp;simp[execOp,hop,resolve,invoke,builtin,hm,hx,hrun,Result.andThen];exact hK' _ _ (hK w' r1 r2 r3)
theorem wpList_update_p {w:World} {ops:Array Oper} {rest:List Oper} {o:Oper} {a:Act} {Q:Exit->Act->World->Prop} (hg:o.guard=none) (m x v:Operand) (hop:o.op=Op.mapUpdate 94 m x v)
 (b:Nat) (f:Int) (g n:Nat) (M:Int->Option Nat) (hm:a.eval m=.map (some b)) (hx:a.eval x=.int .i64 f) (hv:a.eval v=.pointer (some ⟨g,0,none⟩)) (h:MB w b n M) (hf:I64 f) (hn:n<maxLen)
 (hK:∀ w',MB w' b (n+1) (upd M f (some g))->w.grownBy w' (some b)->w'.heap.size=w.heap.size->wpList prog ops Q rest (a.put o.dst undef) w'):wpList prog ops Q (o :: rest) a w:=by
 refine wpList_plain hg fun K' hK'=>?_;obtain⟨w',hrun,r1,r2,r3⟩:=h.put hn f g hf;unfold Oper.wp;simp[execOp,hop,hm,hx,hv,hrun,Result.andThen];exact hK' _ _ (hK w' r1 r2 r3)
def relA:Sm->Ou->Ls->Sm×Ou
 | S,O,[]=>(S,O)
 | S,O,none :: L=>relA S O L
 | S,O,some k :: L=>relA (relS S O k) (relO O k) L
def drpR (S:Sm)(P:Ps)(O:Ou)(pid:Int):Int×Sm×Ps×Ou:=match lk P pid with
 | none=>(19,S,P,O)
 | some L=>(0,(relA S O L).1,delP P pid,(relA S O L).2)
theorem Drop_all (pid:Int)(w:World)(h:DW K q A S D P O w)(hp:I64 pid)(hq:q<59998) :
 Calls prog 93 #[.pointer (some ⟨K.g,0,none⟩),.int .i64 pid] w fun e w'=>e=.returned (.int .i64 (drpR S P O pid).1)/\DQ K q A (drpR S P O pid).2.1 D (drpR S P O pid).2.2.1 (drpR S P O pid).2.2.2 w w':=by
 have h0:=h;obtain⟨M,β,hm,hd⟩:=h;have hcap:=hd.cap;unfold drpR
 cases e1:lk P pid with
 | none=>
   have cP:=Wd (process_no pid w hd.dp.tb hm hp ((hd.dp.fp.dom pid).2 e1));have H0:=Wd h0;clear h0 hm hd e1 hcap;go_enter func93,ntmps93
   go_wp2_with fail
   refine cP.out.mono ?_;rintro e w1 ⟨rfl,rfl⟩;go_wp2_with fail
   go_ret
   exact⟨rfl,DQ.same H0.out hq (Below.refl _ _)⟩
 | some L=>
   obtain⟨g,hM,hpr,hgb⟩:=hd.dp.fp.hasP e1;have hl:=hd.di.lks e1;have cP:=Wd (process_yes pid g w hd.dp.tb hm hp hM)
   have hd0:DM K q A S D (upd M pid none) β (delP P pid) O (L.drop 0) w:=⟨⟨hd.dp.tw,hd.dp.far,hd.dp.tb,hd.dp.fp.delProc pid,hd.dp.ge⟩,by
    have:=hd.di.del e1;rw[List.append_nil] at this
    exact this,by have:=del_len P pid;rw[List.drop_zero,hl.1];omega⟩
   have s1:=Wd hd0;have s2:=Wd hm;have s3:=Wd hpr;have s4:Hid (Keeps K.base (WT K) w w):=Wd (Keeps.refl _ _ _);have s5:Hid (relA S O (L.drop 0)=relA S O L):=Wd rfl;have HL:=Wd hl.1;have HF:=Wd hcap;have HGE:=Wd hd.dp.ge.2;simp only;generalize hfin:relA S O L=fin at *;clear h0 hm hd e1 hcap hM hpr hl hd0 hgb hfin;go_enter func93,ntmps93
   go_wp2_with fail
   refine cP.out.mono ?_;rintro e w1 ⟨rfl,rfl⟩;go_wp2_with fail
   go_loopw [8,19] (fun _ i wr=>∃ (j:Nat) (Si:Sm) (Oi:Ou),j<=64/\i=.int .i64 (j:Int)/\Hid (DM K q A Si D (upd M pid none) β (delP P pid) Oi (L.drop j) wr)/\Hid (MB wr K.b q M)/\Hid (PR wr g (pad K.files β L))/\Hid (Keeps K.base (WT K) w1 wr)/\Hid (relA Si Oi (L.drop j)=fin)) (fun _ i _=>64-(intOf i).toNat)
   case atStart=>exact⟨0,S,O,by omega,rfl,s1,s2,s3,s4,s5⟩
   case round=>
    obtain⟨j,Si,Oi,hj,rfl,hD,hMB,hPR,hK,hR⟩:=hrel
    by_cases hlt:j<64
    ·have h64:(j:Int)<64:=by omega
     have fz:=hPR.out.2.fz
     by_cases hjf:j<K.files
     ·have hat:=pad_at (β:=β) HL.out j hjf;obtain⟨x,hx⟩:∃ x,L[j]? = some x:=⟨_,List.getElem?_eq_getElem (by rw[HL.out];exact hjf)⟩;have hdr:L.drop j=x :: L.drop (j+1):=by
       obtain⟨h1,h2⟩:=List.getElem?_eq_some_iff.1 hx;rw[List.drop_eq_getElem_cons h1,h2]
      rw[hx] at hat;have cc:=hPR.out.at_ hat;rw[hdr] at hD hR
      cases x with
      | none=>
        have cc2:wr.cell? ⟨g,j,none⟩=some (.pointer none):=cc;have hD2:=Wd (show DM K q A Si D (upd M pid none) β (delP P pid) Oi (L.drop (j+1)) wr from ⟨hD.out.dp,hD.out.di.skip,by have:=hD.out.cap;rw[List.length_cons] at this;omega⟩);have hR2:Hid (relA Si Oi (L.drop (j+1))=fin):=Wd hR.out;clear hD hR cc hat hx hdr;go_wp2_with fail
        go_roundw
        case rel=>exact⟨j+1,Si,Oi,by omega,by go_num,hD2,hMB,hPR,hK,hR2⟩
        case measure=>simp[intOf];omega
      | some k=>
        obtain⟨o,ho⟩:=hD.out.di.hasR (k:=k) (by rw[cntL_cons,if_pos rfl];omega);have cc2:wr.cell? ⟨g,j,none⟩=some (.pointer (some ⟨β k,0,none⟩)):=cc;have cR:=Wd (release_any k o wr hD.out ho);have hR2:Hid (relA (relS Si Oi k) (relO Oi k) (L.drop (j+1))=fin):=Wd hR.out;clear hR cc hat hx hdr ho;go_wp2_with fail
        refine cR.out.mono ?_;rintro e w2 ⟨rfl,hd2,k2⟩;have hD2:=Wd hd2;have hMB2:=Wd (hD.out.dp.mbStore hMB.out k2);have hPR2:Hid (PR w2 g (pad K.files β L)):=Wd ⟨hPR.out.1,k2.block _ _ hPR.out.2 (by simp[WT,IN.PT])⟩;have hK2:=Wd (hK.out.trans k2);clear hd2 k2 hD cR;go_wp2_with fail
        go_roundw
        case rel=>exact⟨j+1,_,_,by omega,by go_num,hD2,hMB2,hPR2,hK2,hR2⟩
        case measure=>simp[intOf];omega
     ·have cc:=hPR.out.at_ (pad_hi (β:=β) HL.out j (by omega) hlt);have cc2:wr.cell? ⟨g,j,none⟩=some (.pointer none):=cc;have e0:L.drop j=L.drop (j+1):=by rw[List.drop_of_length_le (by rw[HL.out];omega),List.drop_of_length_le (by rw[HL.out];omega)]
      rw[e0] at hD hR;clear cc e0;go_wp2_with fail
      go_roundw
      case rel=>exact⟨j+1,Si,Oi,by omega,by go_num,hD,hMB,hPR,hK,hR⟩
      case measure=>simp[intOf];omega
    ·obtain rfl:j=64:=by omega
     have e0:L.drop 64=[]:=List.drop_of_length_le (by rw[HL.out];have:=HF.out;omega);rw[e0] at hD hR;have hR2:(Si,Oi)=fin:=hR.out;subst hR2;have t2:=hD.out.dp.tb.blk.cell (j:=2) rfl;clear e0 hR;go_wp2_with (first|(refine wpList_delete_p rfl _ _ rfl K.b pid q M rfl rfl hMB.out hp ?_;intro w2 hm2 hg2 hs2))
     have hfin:=Wd (show DQ K q A Si D (delP P pid) Oi w1 w2 from by
      have hc:=HF.out;have hq3:=hq
      refine⟨⟨A,upd M pid none,β,hm2.le (by omega),(hD.out.dp.map hMB.out hg2).more (by omega),hD.out.di,by have:=hD.out.cap;omega⟩,(UT_w A hK.out).trans (UT_map hg2 hMB.out HGE.out)⟩)
     clear hm2 hg2 hs2;go_wp2_with fail
     go_ret
     exact⟨rfl,hfin.out⟩
end
end DC
namespace DC
theorem brow {w:World}{g:Nat}{e:TypeId}{l:List Value}(h:Blk w g e l)(cs:List Value):Blk (w.setRow g cs.toArray) g e cs:=setRow_heap w g _ _ _ _ h
theorem below_brow {B:Nat}{w w':World}(h:Below B w w'){g:Nat}(hg:B<=g)(cs:Array Value):Below B w (w'.setRow g cs):=
 ⟨h.os,h.tape,h.output,by rw[setRow_size];exact h.size,fun k hk=>(setRow_other w' g k cs (by omega)).trans (h.block k hk)⟩
theorem wpList_store_w {P:Program} {ops:Array Oper} {rest:List Oper} {o:Oper} {a:Act} {w:World} {Q:Exit->Act->World->Prop} (hgd:o.guard=none) (ty:TypeId) (x y:Operand) (ho:o.op=.store ty x y)
 (g:Nat) (cells:List Value) (hx:a.eval x=.pointer (some ⟨g,0,none⟩)) (hy:a.eval y=.agg cells.toArray) (t:TypeId) (old:List Value) (hg:Blk w g t old) (hi:(P.info? ty).map (·.size)=some cells.toArray.size)
 (hold:old.toArray.size=cells.toArray.size) (h1:cells.toArray.all (·.oneCell')=true)
 (h:∀ w',Blk w' g t cells->(∀ B w0,B<=g->Below B w0 w->Below B w0 w')->wpList P ops Q rest (a.put o.dst undef) w'):wpList P ops Q (o :: rest) a w:=
 wpList_store_row hgd ty x y ho g cells.toArray hx hy t _ hg hi hold h1 (h _ (brow hg _) (fun B w0 hB hb=>below_brow hb hB _))
theorem idx_proc (cl:List Value)(j:Nat)(hj:j<64)(v:Value)(hv:cl[j]? = some v)(hl:cl.length=64)(w:World):(Instr.index 106 (.agg cl.toArray) (.int .i64 (j:Int))).run prog w=.ok v w:=by
 have hi:(0:Int)<=(j:Int)/\(j:Int)<((64:Nat):Int):=by omega
 have hu:=underlying106;simp[Instr.index,run_underlying hu,asIntOf,hi,part,go_sem,hv];intro h
 omega
theorem info_proc {cl:List Value}(h:cl.length=64):(prog.info? 106).map (·.size)=some cl.toArray.size:=by
 rw[List.size_toArray,h]
 kernel_rfl
theorem one_proc (L:Ls):(L.map pv).toArray.all (·.oneCell')=true:=by
 rw[List.all_toArray,List.all_eq_true];intro v hv;obtain⟨x,-,rfl⟩:=List.mem_map.1 hv
 rfl
end DC
namespace DC
open IS (I64 upd)
open IN (Keeps lt_of_some)
def incO (O:Ou)(k:Nat):Ou:=match O k with
 | none=>O
 | some o=>updO O k (some { o with refs:=o.refs+1 })
def incL:Ou->Ls->Ou
 | O,[]=>O
 | O,none :: L=>incL O L
 | O,some k :: L=>incL (incO O k) L
def cloR (P:Ps)(O:Ou)(pid pto:Int):Int×Ps×Ou:=match lk P pid with
 | none=>(19,P,O)
 | some L=>if vacP P pto=0 then (0,insP pto L P,incL O L) else (vacP P pto,P,O)
section
variable {K:Cn}{q:Nat}{A:Am}{S:Sm}{D:NT.Ds}{M:Int->Option Nat}{β:Nat->Nat}{P:Ps}{O:Ou}{R:Ls}{w w':World}{n:Nat}
theorem Clone_all (pid pto:Int)(w:World)(h:DW K q A S D P O w)(hp:I64 pid)(ht:I64 pto)(hq:q<59998) :
 Calls prog 30 #[.pointer (some ⟨K.g,0,none⟩),.int .i64 pid,.int .i64 pto] w fun e w'=>e=.returned (.int .i64 (cloR P O pid pto).1)/\DQ K q A S D (cloR P O pid pto).2.1 (cloR P O pid pto).2.2 w w':=by
 have h0:=h;obtain⟨M,β,hm,hd⟩:=h;have hcap:=hd.cap;unfold cloR
 cases e1:lk P pid with
 | none=>
   have cP:=Wd (process_no pid w hd.dp.tb hm hp ((hd.dp.fp.dom pid).2 e1));have H0:=Wd h0;clear h0 hm hd e1 hcap;go_enter func30,ntmps30
   go_wp2_with fail
   refine cP.out.mono ?_;rintro e w1 ⟨rfl,rfl⟩;go_wp2_with fail
   go_ret
   exact⟨rfl,DQ.same H0.out hq (Below.refl _ _)⟩
 | some L=>
   obtain⟨g,hM,hpr,hgb⟩:=hd.dp.fp.hasP e1;have hl:=hd.di.lks e1;have cP:=Wd (process_yes pid g w hd.dp.tb hm hp hM);have cV:=vacant_any pto w hd.dp.tb hm ht;rw[vac_same hd.dp.fp pto] at cV;simp only
   by_cases hv:vacP P pto=0
   ·rw[if_pos hv];rw[hv] at cV;have cV:=Wd cV;have hvac:1<=pto/\lk P pto=none:=by
     unfold vacP at hv
     split at hv
     ·cases hv
     ·split at hv
      ·rename_i a b;exact⟨by omega,b⟩
      ·cases hv
    have hpl:((pad K.files β L).map pv).length=64:=by rw[List.length_map];exact pad_len hl.1 hcap.2.1
    have hPR:=Wd hpr;have H:=Wd (And.intro hm hd);have HL:=Wd hl;have HC:=Wd hcap;have HV:=Wd hvac;have HE:=Wd e1;have s5:Hid (incL O (L.drop 0)=incL O L):=Wd rfl;have hlow:=Wd hd.low;generalize hfin:incL O L=fin at *;have hL0:(L0.map pv).toArray.size=((pad K.files β L).map pv).toArray.size:=by rw[List.size_toArray,List.size_toArray,hpl];rfl
    have hinfo:=info_proc hpl;have hone:=one_proc (pad K.files β L);replace hpl:=Wd hpl;clear h0 hm hd e1 hcap hM hpr hl hgb hfin hv hvac;go_enter func30,ntmps30
    go_wp2_with fail
    refine cP.out.mono ?_;rintro e w1 ⟨rfl,rfl⟩;go_wp2_with fail
    refine cV.out.mono ?_;rintro e w1 ⟨rfl,rfl⟩
    go_wp2_with (first
     | (refine wpList_load_row rfl 106 _ rfl g rfl _ _ _ _ hPR.out.2 underlying106 rfl hinfo ?_)
     | (refine wpList_store_w rfl 106 _ _ rfl w1.heap.size ((pad K.files β L).map pv) rfl rfl 106 (L0.map pv) (Blk.new w1 106 (L0.map pv) rfl) hinfo hL0 hone ?_;intro w3 hZ3 hb3)
     | (refine wpList_load_row rfl 106 _ rfl w1.heap.size rfl _ _ _ _ hZ3 underlying106 rfl hinfo ?_))
    have b3:Below w1.heap.size w1 w3:=hb3 _ _ (Nat.le_refl _) ((Below.refl _ w1).alloc (Nat.le_refl _) _)
    have s1:=Wd (show DM K q A S D M β P O (L.take 0) w3 from by
     have:=H.out.2.keep b3
     exact⟨this.dp,this.di,this.cap⟩)
    have s2:=Wd (H.out.1.keep b3);have s3:=Wd hZ3;have s4:Hid (Keeps K.base (UT K A) w1 w3):=Wd (Keeps.new b3 hlow.out);have hsz:Hid (∀ k,k<w1.heap.size->k≠w1.heap.size):=Wd fun k h=>by omega
    have hflt:Hid (∀ (Oi:Ou) (wr:World),FP K.base wr K.files β M P Oi->Blk wr w1.heap.size 106 ((pad K.files β L).map pv)->∀ k o,Oi k=some o->w1.heap.size≠β k):=Wd fun Oi wr hf hb k o ho=>IN.blk_ne hb (hf.fb k o ho).blk (by decide);have hix:=Wd (fun (j:Nat) (hj:j<64) (v:Value) (hv:((pad K.files β L).map pv)[j]? = some v) (w:World)=>idx_proc ((pad K.files β L).map pv) j hj v hv hpl.out w);have hnew:Hid (∀ q' g',M q'=some g'->g'≠w1.heap.size):=Wd fun q' g' hM=>by
     obtain⟨L',-,-,hlt⟩:=H.out.2.dp.fp.plt hM
     omega
    clear hb3 hZ3 b3 hL0 hinfo hone;go_loopw [12,32] (fun _ i wr=>∃ (j:Nat) (Oi:Ou),j<=64/\i=.int .i64 (j:Int)/\Hid (DM K q A S D M β P Oi (L.take j) wr)/\Hid (MB wr K.b q M)/\Hid (Blk wr w1.heap.size 106 ((pad K.files β L).map pv))/\Hid (Keeps K.base (UT K A) w1 wr)/\Hid (incL Oi (L.drop j)=fin)) (fun _ i _=>64-(intOf i).toNat)
    case atStart=>exact⟨0,O,by omega,rfl,s1,s2,s3,s4,s5⟩
    case round=>
     obtain⟨j,Oi,hj,rfl,hD,hMB,hZ,hK,hR⟩:=hrel
     by_cases hlt:j<64
     ·have h64:(j:Int)<64:=by omega
      by_cases hjf:j<K.files
      ·have hat:=pad_at (β:=β) HL.out.1 j hjf;obtain⟨x,hx⟩:∃ x,L[j]? = some x:=⟨_,List.getElem?_eq_getElem (by rw[HL.out.1];exact hjf)⟩;have hdr:L.drop j=x :: L.drop (j+1):=by
        obtain⟨h1,h2⟩:=List.getElem?_eq_some_iff.1 hx;rw[List.drop_eq_getElem_cons h1,h2]
       have htk:L.take (j+1)=L.take j ++ [x]:=by
        rw[List.take_add_one,hx];rfl
       have hcnt:∀ i,cntL i (L.take (j+1))=cntL i (x :: L.take j):=fun i=>by
        rw[htk,cntL_app,cntL_cons,cntL_cons]
        show _+(0+_)=_
        omega
       have hlen:(L.take (j+1)).length<=64:=by rw[List.length_take];omega
       rw[hx] at hat;rw[hdr] at hR
       cases x with
       | none=>
         have hi:=hix.out j hlt (.pointer none) (by rw[List.getElem?_map,hat];rfl);have hD2:=Wd (show DM K q A S D M β P Oi (L.take (j+1)) wr from ⟨hD.out.dp,hD.out.di.congrR fun i=>by rw[hcnt,cntL_cons];simp,by have:=hD.out.cap;omega⟩);have hR2:Hid (incL Oi (L.drop (j+1))=fin):=Wd hR.out;clear hD hR hat hx hdr htk hcnt hlen;go_wp2_with fail
         go_roundw
         case rel=>exact⟨j+1,Oi,by omega,by go_num,hD2,hMB,hZ,hK,hR2⟩
         case measure=>simp[intOf];omega
       | some k=>
         obtain⟨o,ho⟩:=hD.out.di.has (p:=pid) (L:=L) HE.out hx;have hi:=hix.out j hlt (.pointer (some ⟨β k,0,none⟩)) (by rw[List.getElem?_map,hat];rfl);have hfb:=hD.out.dp.fp.fb k o ho;have c3:=hfb.blk.cell (j:=3) rfl;have fz:=hfb.blk.fz;have hrf:=hD.out.refs_le ho;have hw:IntKind.i64.wrap (o.refs+1)=o.refs+1:=by rw[IntKind.wrap_i64];omega
         have hD2:=Wd (show DM K q A S D M β P (updO Oi k (some { o with refs:=o.refs+1 })) (L.take (j+1)) (wr.setCell ⟨β k,3,none⟩ (.int .i64 (o.refs+1))) from ⟨hD.out.dp.file ho 3 (.int .i64 (o.refs+1)) (o':={ o with refs:=o.refs+1 }) rfl,(hD.out.di.more ho).congrR hcnt,by have:=hD.out.cap;omega⟩);have hMB2:=Wd (MB_file hMB.out hfb (j:=3) (.int .i64 (o.refs+1)));have hZ2:=Wd (Blk.far hZ.out (p:=⟨β k,3,none⟩) (hflt.out Oi wr hD.out.dp.fp hZ.out k o ho) (.int .i64 (o.refs+1)));have hK2:=Wd (hK.out.trans (UT_file (K:=K) (A:=A) (j:=3) (u:=.int .i64 (o.refs+1)) hfb (hD.out.dp.fp.ge.2 k (by rw[ho];simp))))
         have hR2:Hid (incL (updO Oi k (some { o with refs:=o.refs+1 })) (L.drop (j+1))=fin):=Wd (by
          have:=hR.out;unfold incL incO at this;rw[ho] at this
          exact this)
         clear hD hR hat hx hdr htk hcnt hlen ho hfb hMB hZ hK hrf;go_wp2_with fail
         go_roundw
         case rel=>exact⟨j+1,_,by omega,by go_num,hD2,hMB2,hZ2,hK2,hR2⟩
         case measure=>simp[intOf];omega
      ·have hi:=hix.out j hlt (.pointer none) (by rw[List.getElem?_map,pad_hi HL.out.1 j (by omega) hlt];rfl);have e0:L.drop j=L.drop (j+1):=by rw[List.drop_of_length_le (by rw[HL.out.1];omega),List.drop_of_length_le (by rw[HL.out.1];omega)]
       have e1:L.take j=L.take (j+1):=by rw[List.take_of_length_le (by rw[HL.out.1];omega),List.take_of_length_le (by rw[HL.out.1];omega)]
       rw[e1] at hD;rw[e0] at hR;clear e0 e1;go_wp2_with fail
       go_roundw
       case rel=>exact⟨j+1,Oi,by omega,by go_num,hD,hMB,hZ,hK,hR⟩
       case measure=>simp[intOf];omega
     ·obtain rfl:j=64:=by omega
      have e0:L.drop 64=[]:=List.drop_of_length_le (by rw[HL.out.1];have:=HC.out;omega);have e1:L.take 64=L:=List.take_of_length_le (by rw[HL.out.1];have:=HC.out;omega);rw[e0] at hR;rw[e1] at hD;have hR2:Oi=fin:=hR.out;subst hR2;have t2:=hD.out.dp.tb.blk.cell (j:=2) rfl
      have hqm:Hid (q<maxLen):=Wd (by
       have:(60000:Nat)<maxLen:=by decide
       omega)
      clear e0 e1 hR;go_wp2_with (first|(refine wpList_update_p rfl _ _ _ rfl K.b pto w1.heap.size q M rfl rfl rfl hMB.out ht hqm.out ?_;intro w2 hm2 hg2 hs2))
      have hfin:=Wd (show DQ K q A S D (insP pto L P) Oi w1 w2 from by
       have hc:=HC.out;have hdp:=hD.out.dp.map hMB.out hg2
       have hpr2:PR w2 w1.heap.size (pad K.files β L):=⟨by have:=hpl.out;rwa[List.length_map] at this,hZ.out.grown hg2 (by
        obtain⟨es,c,ho⟩:=hMB.out.obj;intro e;have e2:=Option.some.inj e;have hz:=hZ.out;unfold Blk at hz;rw[e2,ho] at hz
        cases hz)⟩
       refine⟨⟨A,upd M pto (some w1.heap.size),β,hm2.le (by omega),(⟨hdp.tw,hdp.far,hdp.tb,hdp.fp.newProc HV.out.2 hpr2 hlow.out hnew.out,hdp.ge⟩:DP K q A S D (upd M pto (some w1.heap.size)) β (insP pto L P) Oi w2).more (by omega),DI.ins (L:=L) (hD.out.di.congrR fun k=>by rw[List.append_nil]) HV.out.2 ⟨HV.out.1,ht⟩ HL.out.1,by rw[ins_len];simp only[List.length_nil];omega⟩,hK.out.trans (UT_map hg2 hMB.out hD.out.dp.ge.2)⟩)
      clear hm2 hg2 hs2;go_wp2_with fail
      go_ret
      exact⟨rfl,hfin.out⟩
   ·rw[if_neg hv];have hne:(vacP P pto != 0)=true:=by simpa using hv
    have H0:=Wd h0;have cV:=Wd cV;clear h0 hm hd e1 hcap hM hpr hl;go_enter func30,ntmps30
    go_wp2_with fail
    refine cP.out.mono ?_;rintro e w1 ⟨rfl,rfl⟩;go_wp2_with fail
    refine cV.out.mono ?_;rintro e w1 ⟨rfl,rfl⟩;go_wp2_with fail
    go_ret
    exact⟨rfl,DQ.same H0.out hq (Below.refl _ _)⟩
end
end DC
namespace DC
open IS (I64 upd)
open IN (Keeps lt_of_some)
section
variable {K:Cn}{q:Nat}{A:Am}{S:Sm}{D:NT.Ds}{P:Ps}{O:Ou}{w w':World}{n:Nat}
theorem clone_s (pid pto:Int)(w:World)(h:DS K q S D P O w)(hp:I64 pid)(ht:I64 pto)(hq:q<59998) :
 Calls prog 30 #[.pointer (some ⟨K.g,0,none⟩),.int .i64 pid,.int .i64 pto] w fun e w'=>e=.returned (.int .i64 (cloR P O pid pto).1)/\DO K (q+2) S D (cloR P O pid pto).2.1 (cloR P O pid pto).2.2 w w':=by
 obtain⟨A,h⟩:=h;exact (Clone_all pid pto w h hp ht hq).mono fun e w' hh=>⟨hh.1,do_of hh.2⟩
theorem drop_s (pid:Int)(w:World)(h:DS K q S D P O w)(hp:I64 pid)(hq:q<59998) :
 Calls prog 93 #[.pointer (some ⟨K.g,0,none⟩),.int .i64 pid] w fun e w'=>e=.returned (.int .i64 (drpR S P O pid).1)/\DO K (q+2) (drpR S P O pid).2.1 D (drpR S P O pid).2.2.1 (drpR S P O pid).2.2.2 w w':=by
 obtain⟨A,h⟩:=h;exact (Drop_all pid w h hp hq).mono fun e w' hh=>⟨hh.1,do_of hh.2⟩
end
end DC
namespace DC
open IS (I64 upd)
open IN (Keeps lt_of_some)
def fdsA (O:Ou):Nat->Ls->List (Nat×Of)
 | _,[]=>[]
 | j,none :: L=>fdsA O (j+1) L
 | j,some k :: L=>match O k with
   | none=>fdsA O (j+1) L
   | some o=>(j,o) :: fdsA O (j+1) L
def fdsR (P:Ps)(O:Ou)(pid:Int):List (Nat×Of):=match lk P pid with
 | none=>[]
 | some L=>fdsA O 0 L
def fd1 (x:Nat×Of):List Value:=[.int .i64 (x.1:Int),.int .i64 x.2.ino,.int .i64 x.2.off,.int .i64 x.2.flags,.int .i64 x.2.refs]
def fdcl (l:List (Nat×Of)):List Value:=l.flatMap fd1
theorem fdcl_app (a b:List (Nat×Of)):fdcl (a ++ b)=fdcl a ++ fdcl b:=List.flatMap_append
theorem fds_snoc (O:Ou)(x:Option Nat):∀ (L:Ls) (b:Nat),fdsA O b (L ++ [x])=fdsA O b L ++ fdsA O (b+L.length) [x]
 | [],b=>rfl
 | none :: L,b=>by
   show fdsA O (b+1) (L ++ [x])=fdsA O (b+1) L ++ fdsA O (b+(L.length+1)) [x]
   rw[fds_snoc O x L (b+1),show b+1+L.length=b+(L.length+1) by omega]
 | some k :: L,b=>by
   have ih:=fds_snoc O x L (b+1);rw[show b+1+L.length=b+(L.length+1) by omega] at ih;have hc:∀ (M:Ls),fdsA O b (some k :: M)=(match O k with|none=>fdsA O (b+1) M|some o=>(b,o) :: fdsA O (b+1) M):=fun _=>rfl;rw[List.cons_append,hc,hc,List.length_cons]
   cases e:O k with
   | none=>exact ih
   | some o=>simp only[List.cons_append];rw[ih]
theorem fds_len (O:Ou):∀ (L:Ls) (b:Nat),(fdsA O b L).length<=L.length
 | [],_=>Nat.le_refl _
 | none :: L,b=>by have:=fds_len O L (b+1);unfold fdsA;rw[List.length_cons];omega
 | some k :: L,b=>by
   have:=fds_len O L (b+1);unfold fdsA
   split
   ·rw[List.length_cons];omega
   ·rw[List.length_cons,List.length_cons];omega
theorem below_grown {B:Nat}{w0 w w':World}{row:Option Nat}(h:Below B w0 w)(hB:B<=w.heap.size)(hg:w.grownBy w' row)(hr:∀ g,row=some g->B<=g):Below B w0 w':=
 ⟨hg.os.trans h.os,hg.tape.trans h.tape,hg.output.trans h.output,Nat.le_trans h.size hg.size,fun k hk=>(hg.block k (by omega) (fun e=>by have:=hr k e.symm;omega)).trans (h.block k hk)⟩
theorem info_fd:Own.Info prog 63 (.agg #[.int .i64 0,.int .i64 0,.int .i64 0,.int .i64 0,.int .i64 0]) 5 40:=Own.info_of (by kernel_rfl) rfl (by decide)
theorem fd_src (w:World)(g:Nat)(x:Nat×Of)(hB:Blk w g 63 (fd1 x)):Own.Src w 5 (.slice (some ⟨g,0,none⟩) 1 1) 1 (fd1 x):=
 .inr ⟨_,_,rfl,by simp[fd1],fun j v hj=>by
  have:=hB.cell hj;rw[Addr.add_lit,Nat.zero_add]
  exact this⟩
theorem fd_one (x:Nat×Of):∀ u∈fd1 x,u.oneCell'=true:=by
 intro u hu;simp only[fd1,List.mem_cons,List.not_mem_nil,or_false] at hu;rcases hu with rfl|rfl|rfl|rfl|rfl <;> rfl
section
variable {K:Cn}{q:Nat}{A:Am}{S:Sm}{D:NT.Ds}{M:Int->Option Nat}{β:Nat->Nat}{P:Ps}{O:Ou}{R:Ls}{w w':World}{n:Nat}
theorem Fds_all (pid:Int)(w:World)(h:DW K q A S D P O w)(hp:I64 pid) :
 Calls prog 22 #[.pointer (some ⟨K.g,0,none⟩),.int .i64 pid] w fun e w'=>∃ v,e=.returned v/\w'.ownsRow w.heap.size 63 5 v (fdsR P O pid).length (fdcl (fdsR P O pid))/\Below w.heap.size w w':=by
 obtain⟨M,β,hm,hd⟩:=h;unfold fdsR
 cases e1:lk P pid with
 | none=>
   have cP:=Wd (process_no pid w hd.dp.tb hm hp ((hd.dp.fp.dom pid).2 e1));clear hm hd e1;go_enter func22,ntmps22
   go_wp2_with fail
   refine cP.out.mono ?_;rintro e w1 ⟨rfl,rfl⟩;go_wp2_with fail
   go_ret
   exact⟨_,rfl,World.ownsRow_nil _ _ _ _,Below.refl _ _⟩
 | some L=>
   obtain⟨g,hM,hpr,hgb⟩:=hd.dp.fp.hasP e1;have hl:=hd.di.lks e1;have hcap:=hd.cap;have cP:=Wd (process_yes pid g w hd.dp.tb hm hp hM);have H:=Wd hd;have HP:=Wd hpr;have HL:=Wd hl.1;have HE:=Wd e1;have HF:=Wd hcap.2.1;have o0:Hid (w.ownsRow w.heap.size 63 5 (.slice none 0 0) (fdsA O 0 (L.take 0)).length (fdcl (fdsA O 0 (L.take 0)))):=Wd (World.ownsRow_nil _ _ _ _);simp only;clear hm hd e1 hM hpr hl hcap hgb;go_enter func22,ntmps22
   go_wp2_with fail
   refine cP.out.mono ?_;rintro e w1 ⟨rfl,rfl⟩;go_wp2_with fail
   go_loopw [7,8,9,19] (fun v _ _ i wr=>∃ (j:Nat),j<=64/\i=.int .i64 (j:Int)/\Hid (wr.ownsRow w1.heap.size 63 5 v (fdsA O 0 (L.take j)).length (fdcl (fdsA O 0 (L.take j))))/\Hid (Below w1.heap.size w1 wr)) (fun _ _ _ i _=>64-(intOf i).toNat)
   case atStart=>exact⟨0,by omega,rfl,o0,Wd (Below.refl _ _)⟩
   case round=>
    obtain⟨j,hj,rfl,hown,hb⟩:=hrel
    by_cases hlt:j<64
    ·have h64:(j:Int)<64:=by omega
     have hpw:PR wr g (pad K.files β L):=⟨HP.out.1,HP.out.2.keep hb.out⟩;have fz:=hpw.2.fz
     by_cases hjf:j<K.files
     ·have hat:=pad_at (β:=β) HL.out j hjf;obtain⟨x,hx⟩:∃ x,L[j]? = some x:=⟨_,List.getElem?_eq_getElem (by rw[HL.out];exact hjf)⟩;have htk:L.take (j+1)=L.take j ++ [x]:=by
       rw[List.take_add_one,hx];rfl
      have hsn:fdsA O 0 (L.take (j+1))=fdsA O 0 (L.take j) ++ fdsA O j [x]:=by
       rw[htk,fds_snoc,List.length_take,Nat.min_eq_left (by rw[HL.out];omega),Nat.zero_add]
      rw[hx] at hat;have cc:=hpw.at_ hat
      cases x with
      | none=>
        have cc2:wr.cell? ⟨g,j,none⟩=some (.pointer none):=cc
        have hown2:Hid (wr.ownsRow w1.heap.size 63 5 u7 (fdsA O 0 (L.take (j+1))).length (fdcl (fdsA O 0 (L.take (j+1))))):=Wd (by
         rw[hsn,show fdsA O j [none]=[] from rfl,List.append_nil]
         exact hown.out)
        clear cc hat hx htk hsn hpw;go_wp2_with fail
        go_quiet (fail)
        go_wp2_with fail
        go_roundw
        case rel=>exact⟨j+1,by omega,by go_num,Wd hown2.out,Wd (below_drewN hb.out nq)⟩
        case measure=>simp[intOf];omega
      | some k=>
        obtain⟨o,ho⟩:=H.out.di.has HE.out hx;have cc2:wr.cell? ⟨g,j,none⟩=some (.pointer (some ⟨β k,0,none⟩)):=cc;have hfb:=(H.out.dp.fp.fb k o ho).blk.keep hb.out;have hone:fdsA O j [some k]=[(j,o)]:=by unfold fdsA;rw[ho];rfl
        have hbg:=Wd (H.out.dp.fp.fb k o ho).blk.lt;have hS:Hid (∀ W,Below w1.heap.size w1 W->(W.cell? ⟨β k,0,none⟩=some (.int .i64 o.ino)/\W.cell? ⟨β k,1,none⟩=some (.int .i64 o.off)/\W.cell? ⟨β k,2,none⟩=some (.int .i64 o.flags)/\W.cell? ⟨β k,3,none⟩=some (.int .i64 o.refs)/\Below w1.heap.size w1 W)):=Wd fun W h=>by
         have hf:=(H.out.dp.fp.fb k o ho).blk.keep h;exact⟨hf.cell (j:=0) rfl,hf.cell (j:=1) rfl,hf.cell (j:=2) rfl,hf.cell (j:=3) rfl,h⟩
        have hlen:(fdsA O 0 (L.take j)).length<=64:=by
         have:=fds_len O (L.take j) 0;rw[List.length_take] at this
         omega
        rw[hone] at hsn
        have htake:Hid ((fdsA O 0 (L.take (j+1))).length=(fdsA O 0 (L.take j)).length+1/\fdcl (fdsA O 0 (L.take (j+1)))=fdcl (fdsA O 0 (L.take j)) ++ [.int .i64 (j:Int),.int .i64 o.ino,.int .i64 o.off,.int .i64 o.flags,.int .i64 o.refs]):=Wd (by
         rw[hsn,fdcl_app,List.length_append]
         exact⟨rfl,rfl⟩)
        generalize fdsA O 0 (L.take j)=l0 at *;clear cc hat hx htk hsn hpw ho hfb hone;go_wp2_with fail
        go_quiet (fail)
        obtain⟨W,hW⟩:∃ W,wr.drewN nq=W:=⟨_,rfl⟩;have hbW:Hid (Below w1.heap.size w1 W):=Wd (by rw[<-hW];exact below_drewN hb.out nq);have hownW:Hid (W.ownsRow w1.heap.size 63 5 u7 l0.length (fdcl l0)):=Wd (by rw[<-hW];exact hown.out);have hszW:=hbW.out.size;rw[hW];clear hW hb hown;have sA:=Wd (hS.out W.drew hbW.out.drew);have hbB:Hid (Below w1.heap.size w1 (W.alloc (.cells #[.int .i64 (j:Int),.int .i64 o.ino,.int .i64 o.off,.int .i64 o.flags,.int .i64 o.refs] 63)).drew):=Wd (hbW.out.alloc hbW.out.size _).drew;have sB:=Wd (hS.out _ hbB.out);have hownB:Hid ((W.alloc (.cells #[.int .i64 (j:Int),.int .i64 o.ino,.int .i64 o.off,.int .i64 o.flags,.int .i64 o.refs] 63)).drew.ownsRow w1.heap.size 63 5 u7 l0.length (fdcl l0)):=Wd (Own.below hownW.out ((Below.refl _ W).alloc (Nat.le_refl _) _).drew);have hsrc:Hid (Own.Src (W.alloc (.cells #[.int .i64 (j:Int),.int .i64 o.ino,.int .i64 o.off,.int .i64 o.flags,.int .i64 o.refs] 63)).drew 5 (.slice (some ⟨W.heap.size,0,none⟩) 1 1) 1 [.int .i64 (j:Int),.int .i64 o.ino,.int .i64 o.off,.int .i64 o.flags,.int .i64 o.refs]):=Wd (fd_src _ W.heap.size (j,o) (show Blk (W.alloc (.cells #[.int .i64 (j:Int),.int .i64 o.ino,.int .i64 o.off,.int .i64 o.flags,.int .i64 o.refs] 63)).drew W.heap.size 63 (fd1 (j,o)) from Blk.new W 63 (fd1 (j,o)) rfl));have hfone:Hid (∀ u∈[Value.int .i64 (j:Int),.int .i64 o.ino,.int .i64 o.off,.int .i64 o.flags,.int .i64 o.refs],u.oneCell'=true):=Wd (fd_one (j,o));go_wp2_with fail
        go_region_held3 (fun W=>W.cell? ⟨β k,0,none⟩=some (.int .i64 o.ino)/\W.cell? ⟨β k,1,none⟩=some (.int .i64 o.off)/\W.cell? ⟨β k,2,none⟩=some (.int .i64 o.flags)/\W.cell? ⟨β k,3,none⟩=some (.int .i64 o.refs)/\Below w1.heap.size w1 W) (with_reducible (first|exact sA.out|exact sB.out|assumption))
         (first
          | (refine Own.step_app rfl (.tmp 27) (.tmp 46) 60 rfl underlying60 info_fd u7 (.slice (some ⟨W.heap.size,0,none⟩) 1 1) rfl rfl hownB.out (by simp;omega) hsrc.out hfone.out (by unfold maxLen;omega) (by omega) ?_
             intro v' w8 ho8 hg8 hb8;have hB8:Below w1.heap.size w1 w8:=below_grown hbB.out (by simp;omega) hg8 (fun g' e=>Own.ge hownB.out g' e);have hS8:=hS.out w8 hB8;have hb9:=Wd hB8;have hown9:Hid (w8.ownsRow w1.heap.size 63 5 v' (fdsA O 0 (L.take (j+1))).length (fdcl (fdsA O 0 (L.take (j+1))))):=Wd (by rw[htake.out.1,htake.out.2];exact ho8)
             clear ho8 hg8 hb8 hB8))
        all_goals
         go_wp2_with fail
         go_roundw
         case rel=>exact⟨j+1,by omega,by go_num,hown9,hb9⟩
         case measure=>simp[intOf];omega
     ·have cc:=hpw.at_ (pad_hi (β:=β) HL.out j (by omega) hlt);have cc2:wr.cell? ⟨g,j,none⟩=some (.pointer none):=cc;have e0:L.take j=L.take (j+1):=by rw[List.take_of_length_le (by rw[HL.out];omega),List.take_of_length_le (by rw[HL.out];omega)]
      rw[e0] at hown;clear cc hpw e0;go_wp2_with fail
      go_quiet (fail)
      go_wp2_with fail
      go_roundw
      case rel=>exact⟨j+1,by omega,by go_num,Wd hown.out,Wd (below_drewN hb.out nq)⟩
      case measure=>simp[intOf];omega
    ·obtain rfl:j=64:=by omega
     have e0:L.take 64=L:=List.take_of_length_le (by rw[HL.out];exact HF.out);rw[e0] at hown;clear e0;go_wp2_with fail
     go_ret
     exact⟨_,rfl,hown.out,hb.out⟩
end
end DC
end Go.Proofs.YtfffibepcdlldaaGreat

namespace Go.Proofs.YtfffibepcdlldaaGreat
open Go.ChangeShapes Go.WideShapes Go.ChangeAt Go.RowKit Go.Shelf Go.Maps
attribute [local go_sem] Oper.semAt_some
namespace DK
open IS hiding MB
theorem i64_big {x:Nat}(h:x<9223372036854775808):I64 (x:Int):=⟨by omega,by omega⟩
theorem nums_lt {w:World}{b n:Nat}{M:Int->Option Nat}{ss:List Nat}(h:Nums M ss)(hm:DC.MB w b n M):∀ f∈ss,f<9223372036854775808:=fun f hf=>by have:=(hm.bound f ((h.2 f).1 hf)).2;omega
structure Come (D:DataW Unit)(left:Lit->Bool)(ss:List Nat):Prop where
 once:ss.Nodup
 iff:∀ f:Nat,f∈ss↔f<9223372036854775808/\Maps.has D (key f)=true/\left (key f)=false
theorem Come.start (D:DataW Unit):Come D (Maps.has D) []:=
 ⟨List.nodup_nil,fun f=>by cases Maps.has D (key f) <;> simp⟩
theorem Come.step {D:DataW Unit}{left:Lit->Bool}{ss:List Nat}(h:Come D left ss){x:Nat}{y:DataW Unit}(hx:x<9223372036854775808)(hlk:left (key x)=true)(hat:∀ z,D.atKey (key x) z=y) :
 Come D (fun z=>left z && !z.sameKey (key x)) (ss ++ [x]):=by
 have hhas:Maps.has D (key x)=true:=has_true_of_atKey hat;have hnew:x∉ss:=fun hm=>by have:=((h.iff x).1 hm).2.2;rw[hlk] at this;cases this
 refine⟨List.nodup_append.2 ⟨h.once,by simp,fun a ha b hb=>by simp at hb;subst hb;exact fun e=>hnew (e▸ha)⟩,fun f=>?_⟩;rw[List.mem_append,List.mem_singleton,h.iff f]
 by_cases e:f=x
 ·subst e;have:(key f).sameKey (key f)=true:=WideAt.sameKey_self (isKey f (i64_big hx));simp[hhas,this,hx]
 ·have:(key f).sameKey (key x)=false:=by
   simp only[key,Lit.sameKey];simp
   omega
  simp[e,this]
theorem keys1_in (F:Fence) (n:Nat) (hf:F.fn 106) (hro:F.round=none) (hn:1<=n) (l Bm b N:Nat) (M:Int->Option Nat) (J Jx:List Nat->World->Prop)
 (D:DataW Unit) (hN:Maps.size D<=N)
 (hY:∀ pre x W,J pre W->pre.length<N->YieldAt F (n-1) prog l #[nk x] W fun e W'=>(e=.returned (.bool true)/\J (pre ++ [x]) W'/\KeepsWalks W W')∨(e=.returned (.bool false)/\Jx (pre ++ [x]) W'))
 (W:World) (hJ:AbidesFrom W.heap.size J) (hm:W.cell? ⟨Bm,0,none⟩=some (.map (some b)))
 (hown:W.ownsMap prog 3 PR b (Maps.size D) D) (hhas:∀ f,I64 f->Maps.has D (key f)=(M f).isSome) (hbd:∀ f,M f≠none->0<=f/\f<9223372036854775808) (h0:J [] W) :
 CallsIn F n prog 106 #[.func (.yield l) #[] #[],.pointer (some ⟨Bm,0,none⟩)] W fun e W'=>(∃ v,e=.returned v) /\
  ((∃ ss,Nums M ss/\J ss W')∨(∃ pre,True/\Jx pre W')):=by
 refine callsIn_of_wp func106 rfl hf ?_ hro;simp only[ntmps106,List.size_toArray,List.length_cons,List.length_nil,Nat.reduceAdd,Nat.reduceSub,Array.replicate_succ,Array.replicate_zero,List.push_toArray,List.append_toArray,List.nil_append,List.cons_append]
 gi_wp2_with (first
  | (gi_at_range;refine wpListIn_range_own _ rfl _ 94 rfl 3 103 keyed_int DC.und_procs PR b (Maps.size D) D rfl hown ?_;intro w0 hrg0 hg0 hs0)
  | gi_in)
 go_frame
 gi_loopw [3] (fun _ wr=>∃ (left:Lit->Bool) (cnt:Nat) (ss:List Nat),wr.ranges prog 3 PR b W.heap.size (Maps.size D) D left cnt/\ss.length+cnt<=Maps.size D/\Come D left ss/\J ss wr)
  (fun _ wr=>wr.rangeLeft b W.heap.size)
 case atStart=>
  exact⟨_,_,[],hrg0,by simp,Come.start D,hJ [] W w0 none h0 hg0 (fun r e=>by cases e)⟩
 case round=>
  obtain⟨left,cnt,ss,hrg,hcs,hC,hJs⟩:=hrel
  gi_wp2_with (first
   | (gi_at_next;refine wpListIn_next_ranges _ rfl _ rfl 3 keyed_int PR (Value.int .i64) id (fun k kl hk=>by obtain⟨x,rfl,hx,hwf⟩:=Maps.keyOf_int_inv und_int hk;exact⟨x,rfl⟩) (fun v _ _=>⟨v,rfl⟩) b W.heap.size (Maps.size D) _ _ _ rfl hrg ?_ ?_)
   | gi_in)
  ·intro hc0 hl0
   gi_wp2
   go_end0
   refine⟨⟨_,rfl⟩,.inl ⟨ss,⟨hC.once,fun f=>?_⟩,hJs⟩⟩;rw[hC.iff f,hl0]
   constructor
   ·rintro ⟨h1,h2,-⟩ h3;rw[hhas f (i64_big h1),h3] at h2
    cases h2
   ·intro h;have h1:=hbd f h;refine⟨by omega,?_,rfl⟩;rw[hhas f (i64_big (by omega))]
    cases e:M f with
    | none=>exact absurd e h
    | some _=>rfl
  ·intro x c kl yd yp w2 cnt2 hkey hlk hv hat hrg2 hlt hg2 hs2 hen;have hx:kl=key x/\I64 x:=by
    obtain⟨x',e,rfl,hwf⟩:=Maps.keyOf_int_inv und_int hkey;simp only[Value.int.injEq,true_and] at e;subst e;exact⟨rfl,wf_bounds hwf⟩
   obtain⟨rfl,hI⟩:=hx;have hh1:Maps.has D (key x)=true:=has_true_of_atKey hat;rw[hhas x hI] at hh1;have hbx:=hbd x (fun e=>by rw[e] at hh1;cases hh1);obtain⟨x,rfl⟩:∃ n:Nat,x=(n:Int):=⟨x.toNat,by omega⟩;have hx:x<9223372036854775808:=by omega
   rw[show Value.int .i64 (x:Int)=nk x from rfl] at hen ⊢;have hJ2:J ss w2:=hJ ss wr w2 (some W.heap.size) hJs hg2 (fun r e=>by cases e;exact⟨Nat.le_refl _,hrg.iter_walk⟩);obtain⟨fn,tmps,assign,body,hy,hR⟩:=hY ss x w2 hJ2 (by omega);clear hs2
   gi_wp2
   refine hR.mono ?_;have hC2:=hC.step hx hlk hat;rintro e W3 (⟨rfl,hJ3,hk3⟩|⟨rfl,hJx3⟩)
   ·gi_wp2
    have hrg3:=hrg2.of_walks hk3;go_roundw
    case rel=>exact⟨_,cnt2,ss ++ [x],hrg3,by simp;omega,hC2,hJ3⟩
    case measure=>rw[hrg3.left_eq,hrg.left_eq];exact hlt
   ·gi_wp2
    refine bodyPost_ret (results_none rfl _ _ _) rfl ?_;exact⟨⟨_,rfl⟩,.inr ⟨ss ++ [x],trivial,hJx3⟩⟩
theorem keys_seq (F:Fence) (n:Nat) (hf:F.fn 106) (hro:F.round=none) (hn:1<=n) (Bm b n0:Nat) (M:Int->Option Nat) (w:World) (hBm:Bm<w.heap.size) (hb:b<w.heap.size)
 (hm:w.cell? ⟨Bm,0,none⟩=some (.map (some b))) (hMB:DC.MB w b n0 M) (hn0:n0<=65535) (hpos:∀ f,M f≠none->0<=f) :
 SeqStopsK F n prog 106 #[.pointer (some ⟨Bm,0,none⟩)] (fun x=>#[nk x]) KeepsWalks (Nums M) (fun _=>True) 65536 w:=fun l J Jx W hW hJ _ hY h0=>by
 obtain⟨D,hown,hsz0,hhas,hat⟩:=hMB.ex;have hsz:Maps.size D<=65536:=by omega
 have hown':W.ownsMap prog 3 PR b (Maps.size D) D:=by
  obtain⟨es,clock,hb',Ft,hs,hD⟩:=hown;exact⟨es,clock,(hW.block b hb).trans hb',Ft,hs,hD⟩
 exact keys1_in F n hf hro hn l Bm b 65536 M J Jx D hsz hY W hJ ((hW.cell (p:=⟨Bm,0,none⟩) hBm).trans hm) hown' hhas (fun f hf=>⟨hpos f hf,by have:=(hMB.bound f hf).2;omega⟩) h0
theorem Keys_any (b:Nat)(w:World) :
 Calls prog 57 #[.map (some b)] w fun e w'=>e=.returned (.func (.func 106) #[] #[.pointer (some ⟨w.heap.size,0,none⟩)])/\w'=w.alloc (.cells #[.map (some b)] 94):=by
 go_enter func57,ntmps57
 go_wp2
 go_ret
 exact⟨rfl,rfl⟩
theorem enters_keys1:∀ args w,(callFunc 106 args).run prog w=.ok (.enter 106 args) w:=
 enters_of func106 (by kernel_rfl) rfl
theorem Collect_any (Bm b n0:Nat)(M:Int->Option Nat)(w:World)(hBm:Bm<w.heap.size)(hb:b<w.heap.size)(hm:w.cell? ⟨Bm,0,none⟩=some (.map (some b)))(hMB:DC.MB w b n0 M)(hn0:n0<=65535)(hpos:∀ f,M f≠none->0<=f) :
 Calls prog 102 #[.func (.func 106) #[] #[.pointer (some ⟨Bm,0,none⟩)]] w fun e w'=>∃ (v:Value) (ss:List Nat),e=.returned v/\Nums M ss/\w'.ownsRow w.heap.size 3 1 v ss.length (ss.map nk)/\(v=.slice none 0 0↔ss=[])/\Below w.heap.size w w':=by
 refine (callsIn_wide (n:=6)).1 ?_;exact collect_in Fence.wide 6 trivial trivial rfl (by omega) _ _ trivial enters_keys1 (Nums M) 65536 (Nat.le_refl _) w (keys_seq Fence.wide 4 trivial rfl (by omega) Bm b n0 M w hBm hb hm hMB hn0 hpos)
theorem Sorted_nums (Bm b n0:Nat)(M:Int->Option Nat)(w:World)(hBm:Bm<w.heap.size)(hb:b<w.heap.size)(hm:w.cell? ⟨Bm,0,none⟩=some (.map (some b)))(hMB:DC.MB w b n0 M)(hn0:n0<=65535)(hpos:∀ f,M f≠none->0<=f)(ks:List Nat)(hk:Nums M ks)(hr:ks.Pairwise (· < ·))(hlen:ks.length<65536) :
 Calls prog 54 #[.func (.func 106) #[] #[.pointer (some ⟨Bm,0,none⟩)]] w fun e w'=>∃ v,e=.returned v/\LC w.heap.size w' v ks/\Below w.heap.size w w':=
 Sorted_of _ M w (Collect_any Bm b n0 M w hBm hb hm hMB hn0 hpos) ks hk hr hlen
end DK
end Go.Proofs.YtfffibepcdlldaaGreat

namespace Go.Proofs.YtfffibepcdlldaaGreat
open Go.ChangeShapes Go.WideShapes Go.ChangeAt Go.RowKit Go.Maps
namespace DC
open IS (I64 upd)
open IN (Keeps lt_of_some)
def pids (P:Ps):List Nat:=P.map fun x=>x.1.toNat
section
variable {K:Cn}{q:Nat}{A:Am}{S:Sm}{D:NT.Ds}{M:Int->Option Nat}{β:Nat->Nat}{P:Ps}{O:Ou}{R:Ls}{w w':World}{n:Nat}
theorem pids_up (ha:Asc P)(hp:∀ x∈P,1<=x.1/\I64 x.1):(pids P).Pairwise (· < ·):=by
 unfold pids;rw[List.pairwise_map];refine List.Pairwise.imp_of_mem (fun {a b} h1 h2 hab=>?_) ha;have:=(hp a h1).1;have:=(hp b h2).1
 omega
theorem pids_nums (h:DM K q A S D M β P O R w):IS.Nums M (pids P):=by
 refine⟨(pids_up h.di.asc h.di.pid).imp (fun {a b} h=>by omega),fun f=>?_⟩;rw[ne_eq,h.dp.fp.dom]
 constructor
 ·intro hf hl;obtain⟨x,hx,e⟩:=List.mem_map.1 hf;have:=(h.di.pid x hx).1;exact lk_none.1 hl x hx (by omega)
 ·intro hl;obtain⟨L,hL⟩:=Option.ne_none_iff_exists'.1 hl;exact List.mem_map.2 ⟨_,lk_mem hL,by simp⟩
theorem Procs_all (w:World)(h:DW K q A S D P O w) :
 Calls prog 21 #[.pointer (some ⟨K.g,0,none⟩)] w fun e w'=>∃ v,e=.returned v/\IS.LC w.heap.size w' v (pids P)/\Below w.heap.size w w':=by
 obtain⟨M,β,hm,hd⟩:=h;have hcap:=hd.cap;have cN:=Wd (none_any w hd.dp.tb);have t2:=hd.dp.tb.blk.cell (j:=2) rfl;have hb1:=(Below.refl w.heap.size w).alloc (Nat.le_refl _) (.cells #[.map (some K.b)] 94);have hBm:(w.alloc (.cells #[.map (some K.b)] 94)).cell? ⟨w.heap.size,0,none⟩=some (.map (some K.b)):=(Blk.new w 94 [.map (some K.b)] rfl).cell (j:=0) rfl
 have cS:=Wd (DK.Sorted_nums w.heap.size K.b q M (w.alloc (.cells #[.map (some K.b)] 94)) (by simp) (hm.alloc _).lt hBm (hm.alloc _) (by omega) (fun f hf=>by
  have:lk P f≠none:=fun e=>hf ((hd.dp.fp.dom f).2 e);obtain⟨L,hL⟩:=Option.ne_none_iff_exists'.1 this;have:=(hd.di.lks hL).2.1
  omega) (pids P) (pids_nums hd) (pids_up hd.di.asc hd.di.pid) (by unfold pids;rw[List.length_map];omega))
 have cK:=Wd (DK.Keys_any K.b w);replace hb1:=Wd hb1;have hsz:w.heap.size<=(w.alloc (.cells #[.map (some K.b)] 94)).heap.size:=hb1.out.size;replace hsz:=Wd hsz;clear hm hd hcap hBm;go_enter func21,ntmps21
 go_wp2_with fail
 refine cN.out.mono ?_;rintro e w1 ⟨rfl,rfl⟩;go_wp2_with fail
 refine cK.out.mono ?_;rintro e w2 ⟨rfl,rfl⟩;go_wp2_with fail
 refine cS.out.mono ?_;rintro e w3 ⟨v,rfl,hl,hb⟩;have hfin:=Wd (And.intro hl (hb1.out.trans (hb.mono hsz.out)));clear hl hb;go_wp2_with fail
 go_ret
 refine⟨_,rfl,?_,hfin.out.2⟩;obtain⟨ao,cap,e,hh⟩:=hfin.out.1
 exact⟨ao,cap,e,fun i hi=>by
  obtain⟨blk,off,h1,h2,h3,h4⟩:=hh i hi
  exact⟨blk,off,h1,Nat.le_trans hsz.out h2,h3,h4⟩⟩
def stR (S:Sm)(P:Ps)(O:Ou)(pid fd:Int):List Value×Int:=match fileR P O pid fd 0 with
 | .error c=>(IN.zl,c)
 | .ok k=>match O k with
   | none=>(IN.zl,0)
   | some o=>(IN.stV S o.ino,0)
end
end DC
namespace DC
open IS (I64 upd)
open IN (Keeps lt_of_some)
section
variable {K:Cn}{q:Nat}{A:Am}{S:Sm}{D:NT.Ds}{M:Int->Option Nat}{β:Nat->Nat}{P:Ps}{O:Ou}{R:Ls}{w w':World}{n:Nat}
theorem Stat_all (pid fd:Int)(w:World)(h:DW K q A S D P O w)(hp:I64 pid) :
 Calls prog 95 #[.pointer (some ⟨K.g,0,none⟩),.int .i64 pid,.int .i64 fd] w fun e w'=>e=.returned (.tuple #[.agg (stR S P O pid fd).1.toArray,.int .i64 (stR S P O pid fd).2])/\Below w.heap.size w w':=by
 obtain⟨M,β,hm,hd⟩:=h;obtain⟨W0,hW0⟩:∃ W0,w.alloc (.cells #[.int .i64 0,.int .i64 0,.int .i64 0,.int .i64 0,.int .i64 0,.int .i64 0] 65)=W0:=⟨_,rfl⟩;have hb0:Below w.heap.size w W0:=by rw[<-hW0];exact (Below.refl _ _).alloc (Nat.le_refl _) _
 have hr0:Blk W0 w.heap.size 65 IN.zl:=by rw[<-hW0];exact Blk.new w _ IN.zl rfl
 have hm0:=hm.keep hb0;have hd0:=hd.keep hb0;unfold stR
 cases e:fileR P O pid fd 0 with
 | error c=>
   obtain⟨hc,cF⟩:=hd0.file_err hm0 hp e;have cF:=Wd cF;have hne:(c != 0)=true:=by simpa using hc
   have f1:=hr0.fz;have r0:=hr0.cell (j:=0) rfl;have r1:=hr0.cell (j:=1) rfl;have r2:=hr0.cell (j:=2) rfl;have r3:=hr0.cell (j:=3) rfl;have r4:=hr0.cell (j:=4) rfl;have r5:=hr0.cell (j:=5) rfl;have hfin:=Wd (IN.six_blk hr0 0 0 0 0 0 0);have hbl:=Wd (IN.six_below hb0 (Nat.le_refl _) 0 0 0 0 0 0);clear hr0 hm hd hm0 hd0 hb0 e;go_enter func95,ntmps95
   go_wp2_with fail
   refine cF.out.mono ?_;rintro e w1 ⟨rfl,rfl⟩;go_wp2_with fail
   exact bodyPost_ret (IN.res_two rfl _ _ rfl hfin.out) rfl ⟨rfl,hbl.out⟩
 | ok k=>
   have cF:=Wd (hd0.file_ok hm0 hp e);obtain⟨o,x,ho⟩:=hd.op e;simp only[ho.at_];have hstv:IN.stV S o.ino=IN.six o.ino x.kind x.links x.opens x.size (EM.cnt x.l:Int):=by unfold IN.stV;rw[ho.nd];rfl
   rw[hstv];have htb:=hd.dp.tb.blk;have hS:Hid (∀ W,Below w.heap.size w W->(W.cell? ⟨K.g,0,none⟩=some (.pointer (some ⟨K.sg,0,none⟩))/\W.cell? ⟨β k,0,none⟩=some (.int .i64 o.ino)/\Below w.heap.size w W)):=Wd fun W hb'=>⟨(htb.keep hb').cell (j:=0) rfl,(ho.fb.keep hb').cell (j:=0) rfl,hb'⟩;have hT:Hid (∀ W (a b c d e f:Int),(W.cell? ⟨K.g,0,none⟩=some (.pointer (some ⟨K.sg,0,none⟩))/\W.cell? ⟨β k,0,none⟩=some (.int .i64 o.ino)/\Below w.heap.size w W)->(((((((W.setCell ⟨w.heap.size,0,none⟩ (.int .i64 a)).setCell ⟨w.heap.size,1,none⟩ (.int .i64 b)).setCell ⟨w.heap.size,2,none⟩ (.int .i64 c)).setCell ⟨w.heap.size,3,none⟩ (.int .i64 d)).setCell ⟨w.heap.size,4,none⟩ (.int .i64 e)).setCell ⟨w.heap.size,5,none⟩ (.int .i64 f)).cell? ⟨K.g,0,none⟩=some (.pointer (some ⟨K.sg,0,none⟩))/\((((((W.setCell ⟨w.heap.size,0,none⟩ (.int .i64 a)).setCell ⟨w.heap.size,1,none⟩ (.int .i64 b)).setCell ⟨w.heap.size,2,none⟩ (.int .i64 c)).setCell ⟨w.heap.size,3,none⟩ (.int .i64 d)).setCell ⟨w.heap.size,4,none⟩ (.int .i64 e)).setCell ⟨w.heap.size,5,none⟩ (.int .i64 f)).cell? ⟨β k,0,none⟩=some (.int .i64 o.ino)/\Below w.heap.size w ((((((W.setCell ⟨w.heap.size,0,none⟩ (.int .i64 a)).setCell ⟨w.heap.size,1,none⟩ (.int .i64 b)).setCell ⟨w.heap.size,2,none⟩ (.int .i64 c)).setCell ⟨w.heap.size,3,none⟩ (.int .i64 d)).setCell ⟨w.heap.size,4,none⟩ (.int .i64 e)).setCell ⟨w.heap.size,5,none⟩ (.int .i64 f)))):=Wd fun W a b c d e f hh=>hS.out _ (IN.six_below hh.2.2 (Nat.le_refl _) a b c d e f);have sA:=Wd (hS.out W0.drew hb0.drew)
   have cS:Hid (Calls prog 33 #[.pointer (some ⟨K.sg,0,none⟩),.int .i64 o.ino] W0.drew fun e w'=>e=.returned (.tuple #[.agg #[.int .i64 o.ino,.int .i64 x.kind,.int .i64 x.links,.int .i64 x.opens,.int .i64 x.size,.int .i64 (EM.cnt x.l:Int)],.int .i64 0])/\(w'.cell? ⟨K.g,0,none⟩=some (.pointer (some ⟨K.sg,0,none⟩))/\w'.cell? ⟨β k,0,none⟩=some (.int .i64 o.ino)/\Below w.heap.size w w')/\Blk w' w.heap.size 65 IN.zl):=Wd (by
    obtain⟨M1,hps⟩:=hd0.drew1.dp.tw.ps;have:=IN.Stat_any o.ino W0.drew hps ho.ino;unfold IN.stV IN.opR IN.askR at this;rw[ho.nd] at this;refine this.mono ?_;rintro e w' ⟨rfl,hb⟩;have hb':=hb0.trans ((bundrew hb).mono hb0.size)
    exact⟨rfl,hS.out _ hb',hr0.keep (bundrew hb)⟩)
   have hD:Hid (∀ W,(W.cell? ⟨K.g,0,none⟩=some (.pointer (some ⟨K.sg,0,none⟩))/\W.cell? ⟨β k,0,none⟩=some (.int .i64 o.ino)/\Below w.heap.size w W)->Below w.heap.size w W):=Wd fun W hh=>hh.2.2;have n1:¬ K.g=w.heap.size:=by have:=htb.lt;omega
   have n2:¬ β k=w.heap.size:=by have:=ho.fb.lt;omega
   have n3:¬ w.heap.size=K.g:=by omega
   have n4:¬ w.heap.size=β k:=by omega
   clear hr0 hm hd hm0 hd0 hb0 e ho htb hstv;go_enter func95,ntmps95
   go_wp2_with fail
   refine cF.out.mono ?_;rintro e w1 ⟨rfl,rfl⟩;clear hW0;go_wp2_with fail
   go_region_held3 (fun w'=>w'.cell? ⟨K.g,0,none⟩=some (.pointer (some ⟨K.sg,0,none⟩))/\w'.cell? ⟨β k,0,none⟩=some (.int .i64 o.ino)/\Below w.heap.size w w') (with_reducible (first|exact sA.out|assumption|exact hT.out _ _ _ _ _ _ _ (by assumption)))
    (first
     | (go_at_call 33;refine cS.out.mono ?_;rintro e w3 ⟨rfl,S3,hz⟩
        have r0:=hz.cell (j:=0) rfl;have r1:=hz.cell (j:=1) rfl;have r2:=hz.cell (j:=2) rfl;have r3:=hz.cell (j:=3) rfl;have r4:=hz.cell (j:=4) rfl;have r5:=hz.cell (j:=5) rfl;have fz:=hz.fz;have hfin:=Wd (IN.six_blk hz o.ino x.kind x.links x.opens x.size (EM.cnt x.l:Int));have hbl:=Wd (IN.six_below S3.2.2 (Nat.le_refl _) o.ino x.kind x.links x.opens x.size (EM.cnt x.l:Int))
        clear hz))
   all_goals
    go_wp2_with fail
    exact bodyPost_ret (IN.res_two rfl _ _ rfl hfin.out) rfl ⟨rfl,hbl.out⟩
end
end DC
namespace DC
def sF:ByteArray:=⟨#[102]⟩
def O0:Ou:=fun _=>none
def P1:Ps:=[(1,[none,none,none,none])]
def P2:Ps:=[(1,[some 0,none,none,none])]
def P3:Ps:=[(1,[some 0,some 0,none,none])]
def S1:Sm:=IN.upd NT.Sn 2 (some (IN.newNd 1))
def x1:IN.Nd:=⟨1,1,1,0,[]⟩
def S2:Sm:=IN.upd NT.Sn 2 (some x1)
def D1:NT.Ds:=NT.mkD NT.D0 1 ⟨#[102]⟩ 2 1
def oF (off refs:Int):Of:=⟨2,off,7,refs⟩
theorem pF0:PM.perr sF=0:=by decide
theorem pF1:PM.pN sF=[⟨#[102]⟩]:=by decide
theorem vF:NT.vacant NT.D0 1 sF=.ok 1:=by unfold NT.vacant;rw[pF1];rfl
theorem fF:NT.findR NT.D0 sF=.error 11:=by unfold NT.findR;rw[if_pos pF0,pF1];rfl
theorem add1:addR 4 [] 1=(0,P1):=by unfold addR vacP;rw[if_pos (by decide)];rfl
theorem low2:IN.Low NT.Sn 2:=⟨by decide,rfl,fun m h1 h2=>by
 obtain rfl:m=1:=by omega
 simp[NT.Sn,IN.upd]⟩
theorem mk1:NT.mk 8 NT.Sn NT.D0 sF 1=((2,0),S1,D1):=by
 unfold NT.mk;rw[if_pos (.inl rfl),if_neg (fun e=>e pF0),vF];have hr:IN.mkR 8 NT.Sn 1=0:=by
  unfold IN.mkR;rw[if_pos (.inl rfl),if_pos (by decide)]
 simp only[hr,ne_eq,not_true_eq_false,if_false];rw[NT.lowN_eq low2];have hl:NT.last (PM.pN sF)=⟨#[102]⟩:=by rw[pF1];rfl
 rw[hl]
 rfl
theorem b74:(bits .and .i64 7 4 != 0)=true:=by decide
theorem rea1:reaR 8 NT.Sn NT.D0 sF 7=((2,0),S1,D1):=by
 unfold reaR;rw[fF];simp only;rw[if_pos ⟨trivial,b74⟩,mk1]
theorem op1:IN.opS S1 2=S2:=by
 unfold IN.opS S1;rw[IN.upd_at];simp only;rw[IN.upd_upd]
 rfl
theorem opn1:opnR 8 4 6 NT.Sn NT.D0 P1 O0 1 sF 7=((0,0),S2,D1,P2,updO O0 0 (some (oF 0 1))):=by
 unfold opnR;have h1:lk P1 1=some [none,none,none,none]:=by decide
 rw[h1];simp only;have h2:flg 7=true:=by decide
 rw[h2,if_neg (by simp),if_pos (by decide),if_pos (by decide),rea1];simp only;rw[if_pos trivial,op1]
 rfl
theorem lk2:lk P2 1=some [some 0,none,none,none]:=by decide
theorem lk3:lk P3 1=some [some 0,some 0,none,none]:=by decide
theorem file1 {P:Ps}{O:Ou}{L:Ls}{fd need:Int}{k:Nat}{o:Of}(hl:lk P 1=some L)(hg:getL L fd=some k)(ho:O k=some o)(hb:(bits .and .i64 o.flags need == need)=true):fileR P O 1 fd need=.ok k:=by
 unfold fileR;rw[hl];simp only[hg,ho,hb,if_true]
theorem dup1 (O:Ou)(off r:Int)(ho:O 0=some (oF off r)):dupR 4 P2 O 1 0=((1,0),P3,updO O 0 (some (oF off (r+1)))):=by
 unfold dupR;rw[file1 (k:=0) (o:=oF off r) lk2 (by decide) ho (by show (bits .and .i64 7 0 == 0)=true;decide)]
 show (if fx ((lk P2 1).getD [])<4 then _ else _)=_
 rw[lk2,ho];rw[if_pos (by decide)]
 rfl
def xW (data:ByteArray):IN.Nd:=IN.wNd x1 0 data
theorem tot_nil {S:Sm}(h:∀ n x,S n=some x->x.l=[])(I:Nat):IN.tot S I=0:=by
 unfold IN.tot;have:((IN.lst S I).map fun x=>EM.cnt x.2.l)=(IN.lst S I).map fun _=>0:=List.map_congr_left fun x hx=>by
  rw[h _ _ (IN.mem_lst.1 hx).2.2];rfl
 rw[this,List.map_const',List.sum_replicate_nat,Nat.mul_zero]
theorem S2_at {n:Int}{x:IN.Nd}(h:S2 n=some x):x.l=[]:=by
 unfold S2 IN.upd at h
 split at h
 ·cases h;rfl
 ·obtain⟨-,rfl⟩:=NT.Sn_at h
  rfl
theorem wr_ok (data:ByteArray)(h:data.size<=1048576):EM.ok 0 (EM.wr [] 0 data)=true/\ends (EM.wr [] 0 data)<=data.size:=by
 have:=IN.ends_wr (l:=[]) (f:=0) (d:=data) (s:=0) rfl (Int.le_refl _) (by omega) (Int.le_refl _) (Int.le_refl _);refine⟨this.1,?_⟩;have h2:=this.2
 split at h2 <;> omega
theorem wrE1 (data:ByteArray):wrE [] 0 data=if data.size<=1048576 then 0 else 28:=by
 unfold wrE;rw[if_pos ⟨rfl,Int.le_refl _⟩]
 by_cases h:data.size<=1048576
 ·rw[if_pos h,if_pos (by omega)]
 ·rw[if_neg h,if_neg (by omega)]
theorem cnt_wr (data:ByteArray)(h:data.size<=1048576):EM.cnt (EM.wr [] 0 data)<=data.size:=by
 have h1:=wr_ok data h;have:=IN.cnt_ends h1.1
 omega
theorem wrErr1 (B:Nat)(data:ByteArray)(hB:data.size<=1048576->data.size<=B):IN.wrErr 8 B S2 2 0 data=if data.size<=1048576 then 0 else 28:=by
 have e:wrE x1.l 0 data=if data.size<=1048576 then 0 else 28:=wrE1 data;unfold IN.wrErr IN.askR S2;rw[IN.upd_at]
 show (if x1.kind=1 then (if wrE x1.l 0 data=0 then (if IN.tot (IN.upd NT.Sn 2 (some x1)) 8+EM.cnt (EM.wr [] 0 data)<=B+EM.cnt [] then (0:Int) else 21) else wrE x1.l 0 data) else 14)=_
 rw[if_pos (show x1.kind=1 from rfl)]
 by_cases h:data.size<=1048576
 ·rw[if_pos h] at e ⊢;rw[if_pos e,if_pos];have h2:=cnt_wr data h;have h3:=hB h;have h4:=tot_nil (S:=IN.upd NT.Sn 2 (some x1)) (fun n x hx=>S2_at hx) 8;rw[h4]
  omega
 ·rw[if_neg h] at e ⊢;rw[if_neg (by rw[e];decide),e]
theorem wrS1 (B:Nat)(data:ByteArray)(h:data.size<=1048576)(hB:data.size<=B):IN.wrS 8 B S2 2 0 data=IN.upd NT.Sn 2 (some (xW data)):=by
 unfold IN.wrS S2;rw[IN.upd_at];simp only;rw[if_pos,IN.upd_upd]
 ·rfl
 ·refine⟨rfl,by show wrE [] 0 data=0;rw[wrE1,if_pos h],?_⟩;have h2:=cnt_wr data h;have h4:=tot_nil (S:=IN.upd NT.Sn 2 (some x1)) (fun n x hx=>S2_at hx) 8
  show IN.tot (IN.upd NT.Sn 2 (some x1)) 8+EM.cnt (EM.wr [] 0 data)<=B+EM.cnt []
  rw[h4]
  omega
def S3 (data:ByteArray):Sm:=IN.upd NT.Sn 2 (some (xW data))
theorem wrAt0 (off r:Int)(x:IN.Nd):wrAt (oF off r) x=off:=by
 unfold wrAt;have:(bits .and .i64 (oF off r).flags 32 == 32)=false:=by show (bits .and .i64 7 32 == 32)=false;decide
 rw[this]
 rfl
theorem S2_2:S2 2=some x1:=IN.upd_at _ _ _
theorem wri1 {P:Ps}{O:Ou}{L:Ls}(B:Nat)(data:ByteArray)(r:Int)(h:data.size<=1048576)(hB:data.size<=B)(hl:lk P 1=some L)(hg:getL L 0=some 0)(ho:O 0=some (oF 0 r)):wriR 8 B S2 P O 1 0 data=(((data.size:Int),0),S3 data,updO O 0 (some (oF data.size r))):=by
 unfold wriR;rw[file1 hl hg ho (by show (bits .and .i64 7 2 == 2)=true;decide)];have e2:(oF 0 r).ino=2:=rfl;simp only[ho,e2,S2_2,wrAt0];rw[wrErr1 B data (fun _=>hB),if_pos h,if_pos rfl,wrS1 B data h hB];unfold oF;simp[S3]
theorem xW_size (data:ByteArray):(xW data).size=data.size:=by
 show (if data.size=0 then (0:Int) else max 0 (0+(data.size:Int)))=data.size
 split <;> omega
theorem rd_piece (data:ByteArray)(h:data.size<=1048576)(p m:Nat)(hp:p+m<=data.size):EM.rd (EM.wr [] 0 data) p m=(data.data.toList.drop p).take m:=by
 have h1:=EM.rd_wr (l:=[]) (f:=0) (d:=data) rfl (Int.le_refl _) (by omega);obtain⟨r,hr⟩:∃ r,data.size=p+(m+r):=⟨data.size-p-m,by omega⟩;rw[hr,EM.rd_two,EM.rd_two,Int.zero_add] at h1;have e1:(EM.rd (EM.wr [] 0 data) 0 p).length=p:=EM.rd_length _ _ _;have e2:(EM.rd (EM.wr [] 0 data) p m).length=m:=EM.rd_length _ _ _;rw[<-h1,List.drop_left' e1,List.take_left' e2]
def pce (data:ByteArray)(p m:Nat):ByteArray:=strOf ((data.data.toList.drop p).take m)
theorem rdE1 (data:ByteArray)(h:data.size<=1048576)(p n:Nat):rdE (xW data).l (xW data).size (p:Int) (n:Int)=0:=by
 unfold rdE;have:=wr_ok data h;rw[xW_size,if_pos ⟨this.1,by omega,by omega,by omega,by omega,this.2⟩]
theorem rdV1 (data:ByteArray)(h:data.size<=1048576)(p n:Nat)(hp:p<=data.size):strOf (rdV (xW data).l (xW data).size (p:Int) (n:Int))=pce data p (min n (data.size-p)):=by
 unfold rdV pce;rw[if_pos (rdE1 data h p n),xW_size]
 congr 1
 have e:(min (n:Int) ((data.size:Int)-(p:Int))).toNat=min n (data.size-p):=by omega
 rw[e];exact rd_piece data h p _ (by omega)
theorem pce_size (data:ByteArray)(p m:Nat)(h:p+m<=data.size):(pce data p m).size=m:=by
 unfold pce;rw[strOf_size,List.length_take,List.length_drop];have:data.data.toList.length=data.size:=Array.length_toList
 omega
theorem S3_2 (data:ByteArray):S3 data 2=some (xW data):=IN.upd_at _ _ _
theorem rd1 {P:Ps}{O:Ou}{L:Ls}{fd:Int}{k:Nat}{S:Sm}(data:ByteArray)(h:data.size<=1048576)(p n:Nat)(o:Of)(x:IN.Nd)(hp:p<=data.size)(hl:lk P 1=some L)(hg:getL L fd=some k)(ho:O k=some o)(hoff:o.off=p)(hb:(bits .and .i64 o.flags 1 == 1)=true)(hS:S o.ino=some x)(hx1:x.l=(xW data).l)(hx2:x.size=(xW data).size) :
 rdR S P O 1 fd (n:Int)=((pce data p (min n (data.size-p)),0),updO O k (some { o with off:=((p+min n (data.size-p):Nat):Int) })):=by
 unfold rdR;rw[file1 hl hg ho hb];simp only[ho,hS,hoff,hx1,hx2];rw[if_pos (rdE1 data h p n),rdV1 data h p n hp,pce_size data p _ (by omega)];simp
theorem sk1 {P:Ps}{O:Ou}{L:Ls}{fd:Int}{k:Nat}{S:Sm}(o:Of)(x:IN.Nd)(by_ wh at_:Int)(hl:lk P 1=some L)(hg:getL L fd=some k)(ho:O k=some o)(hS:S o.ino=some x)(ha:skAt o x wh=some at_)(h1 : -at_<=by_)(h2:by_<=1048576-at_) :
 skR S P O 1 fd by_ wh=((at_+by_,0),updO O k (some { o with off:=at_+by_ })):=by
 unfold skR
 rw[file1 hl hg ho (by
  have:bits .and .i64 o.flags 0=0:=by simp[bits];rfl
  rw[this];rfl)]
 simp only[ho,hS,ha];rw[if_neg (by omega)]
end DC
end Go.Proofs.YtfffibepcdlldaaGreat

namespace Go.Proofs.YtfffibepcdlldaaGreat
open Go.ChangeShapes Go.WideShapes Go.ChangeAt Go.RowKit
open Go.ChangeMaps (open_string shut_string)
namespace DC
open IS (I64)
open IN (Keeps cap7)
theorem res_caps13 {fn:Func}{r:Tmp}(hres:fn.results=#[.cell r 25])(tmps:Array Value)(w:World){g:Nat}{a b c d e f h:Int}(hr:tmps.getD r undef=.pointer (some ⟨g,0,none⟩))(hB:Blk w g 25 [.int .i64 a,.int .i64 b,.int .i64 c,.int .i64 d,.int .i64 e,.int .i64 f,.int .i64 h]) :
 (results fn tmps).run prog w=.ok (cap7 a b c d e f h) w:=by
 have h0:=hB.cell (j:=0) rfl;have h1:=hB.cell (j:=1) rfl;have h2:=hB.cell (j:=2) rfl;have h3:=hB.cell (j:=3) rfl;have h4:=hB.cell (j:=4) rfl;have h5:=hB.cell (j:=5) rfl;have h6:=hB.cell (j:=6) rfl;rw[Array.getD_eq_getD_getElem?] at hr;simp[results,hres,go_sem,hr,h0,h1,h2,h3,h4,h5,h6,cap7]
theorem caps13 (w:World):Calls prog 7 #[] w fun e w'=>e=.returned (cap7 8 100 3 4 6 0 0)/\Below w.heap.size w w':=by
 go_enter func7,ntmps7
 go_wp2_with fail
 exact bodyPost_ret (res_caps13 results7 _ _ rfl (Blk.new w _ [.int .i64 8,.int .i64 100,.int .i64 3,.int .i64 4,.int .i64 6,.int .i64 0,.int .i64 0] rfl)) rfl ⟨rfl,(Below.refl _ w).alloc (Nat.le_refl _) _⟩
structure KC (K:Cn)(B:Nat):Prop where
 I:K.I=8
 L:K.L=3
 B:K.B=B
 f:K.files=4
 o:K.opens=6
theorem opened13c (B:Nat)(hB:B<=16777216)(w:World):Calls prog 12 #[cap7 8 (B:Int) 3 4 6 0 0] w fun e w'=>∃ K,e=.returned (.tuple #[.pointer (some ⟨K.sg,0,none⟩),.pointer (some ⟨K.tg,0,none⟩),.pointer (some ⟨K.g,0,none⟩),.bool true])/\w.heap.size<=K.base/\KC K B/\DS K 0 NT.Sn NT.D0 [] O0 w'/\Below w.heap.size w w':=
 (opened13 8 B 3 4 6 w (by unfold IN.Right;omega) (by omega) (by omega)).mono (by
  rintro e w' ⟨K,A,rfl,h1,⟨h2,h3,h4,h5,h6⟩,h7,h8⟩
  exact⟨K,rfl,h1,⟨h2,h3,by rw[h4];simp,h5,h6⟩,⟨A,h7⟩,h8⟩)
theorem below_do {B q:Nat}{K:Cn}{S:Sm}{D:NT.Ds}{P:Ps}{O:Ou}{w0 w w':World}(h:Below B w0 w)(hd:DO K q S D P O w w')(hB:B<=K.base):Below B w0 w':=h.trans (hd.2.below hB)
def hello:ByteArray:=⟨#[104,101,108,108,111]⟩
theorem i64_one:I64 (1:Int):=⟨by decide,by decide⟩
theorem i64_seven:I64 (7:Int):=⟨by decide,by decide⟩
theorem shown13 (w:World):Calls prog 6 #[] w fun e w'=>e=.returned (.bool true)/\Below w.heap.size w w':=by
 have cC:=Wd (caps13 w);have cO:=fun w=>Wd (show Calls prog 12 #[cap7 8 100 3 4 6 0 0] w _ from opened13c 100 (by decide) w);unfold cap7 at cC cO;go_enter func6,ntmps6
 go_wp2_with fail
 refine cC.out.mono ?_;rintro e w1 ⟨rfl,b1⟩;have B1:=Wd b1;clear b1 cC;go_wp2_with fail
 refine (cO _).out.mono ?_;rintro e w2 ⟨K,rfl,hbase,hK,hd,b2⟩;have B2:=Wd (B1.out.trans (b2.mono B1.out.size));have hbw:=Wd (Nat.le_trans B1.out.size hbase);have cA:=add_s 1 w2 hd i64_one (by decide);rw[hK.f,add1] at cA;replace cA:=Wd cA;replace hK:=Wd hK;clear b2 hd B1 cO hbase;go_wp2_with fail
 refine cA.out.mono ?_;rintro e w3 ⟨rfl,hd⟩;have B3:=Wd (below_do B2.out hd hbw.out);have cA:=open_s 1 sF 7 w3 hd.1 i64_one (by decide) i64_seven (by decide);rw[hK.out.I,hK.out.f,hK.out.o,opn1] at cA;have e1:sF=⟨#[102]⟩:=rfl;rw[e1] at cA;replace cA:=Wd cA;clear hd B2;go_wp2_with fail
 refine cA.out.mono ?_;rintro e w4 ⟨rfl,hd⟩;have B4:=Wd (below_do B3.out hd hbw.out);have cA:=dup_s 1 0 w4 hd.1 i64_one (by decide);rw[hK.out.f,dup1 _ 0 1 (updO_at _ _ _)] at cA;replace cA:=Wd cA;clear hd B3;go_wp2_with fail
 refine cA.out.mono ?_;rintro e w5 ⟨rfl,hd⟩;have B5:=Wd (below_do B4.out hd hbw.out);have cA:=write_s 1 0 hello w5 hd.1 i64_one (by decide) (by decide);rw[hK.out.I,hK.out.B,wri1 (L:=[some 0,some 0,none,none]) 100 hello (1+1) (by decide) (by decide) lk3 (by decide) (updO_at _ _ _)] at cA;have e2:hello=⟨#[104,101,108,108,111]⟩:=rfl;rw[show ((hello.size:Nat):Int)=5 from rfl,e2] at cA;replace cA:=Wd cA;clear hd B4;go_wp2_with fail
 refine cA.out.mono ?_;rintro e w6 ⟨rfl,hd⟩;have B6:=Wd (below_do B5.out hd hbw.out);have cA:=seek_s 1 1 (-4) 1 w6 hd.1 i64_one ⟨by decide,by decide⟩ (by decide);rw[sk1 (L:=[some 0,some 0,none,none]) (k:=0) (oF 5 (1+1)) (xW (⟨#[104,101,108,108,111]⟩:ByteArray)) (-4) 1 5 lk3 (by decide) (updO_at _ _ _) (S3_2 _) rfl (by decide) (by decide)] at cA;replace cA:=Wd cA;clear hd B5;go_wp2_with fail
 refine cA.out.mono ?_;rintro e w7 ⟨rfl,hd⟩;have B7:=Wd (below_do B6.out hd hbw.out);have cA:=read_s 1 0 2 w7 hd.1 i64_one ⟨by decide,by decide⟩ (by decide);rw[show (2:Int)=((2:Nat):Int) from rfl,rd1 (L:=[some 0,some 0,none,none]) (k:=0) (⟨#[104,101,108,108,111]⟩:ByteArray) (by decide) 1 2 { oF 5 (1+1) with off:=5 + -4 } (xW (⟨#[104,101,108,108,111]⟩:ByteArray)) (by decide) lk3 (by decide) (updO_at _ _ _) rfl (by show (bits .and .i64 7 1 == 1)=true;decide) (S3_2 _) rfl rfl] at cA;rw[show pce (⟨#[104,101,108,108,111]⟩:ByteArray) 1 (min 2 ((⟨#[104,101,108,108,111]⟩:ByteArray).size-1))=⟨#[101,108]⟩ from rfl] at cA;replace cA:=Wd cA;clear hd B6;go_wp2_with fail
 refine cA.out.mono ?_;rintro e w8 ⟨rfl,hd⟩;have B8:=Wd (below_do B7.out hd hbw.out);clear hd B7 cA;go_wp2_with fail
 go_ret
 exact⟨rfl,B8.out⟩
end DC
end Go.Proofs.YtfffibepcdlldaaGreat
