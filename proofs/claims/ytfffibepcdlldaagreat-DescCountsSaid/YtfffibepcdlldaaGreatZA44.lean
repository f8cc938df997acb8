/- A part. -/
import Derived.Test.YtfffibepcdlldaaGreatZA40
import Derived.Test.YtfffibepcdlldaaGreatZA39
import Derived.Test.YtfffibepcdlldaaGreatZA41
import Derived.Test.YtfffibepcdlldaaGreatZA42
import Derived.Test.YtfffibepcdlldaaGreatZA43
import Derived.Test.YtfffibepcdlldaaGreatZA37
import Derived.Test.YtfffibepcdlldaaGreatZA34
set_option linter.unusedVariables false
set_option linter.unusedSimpArgs false
set_option maxRecDepth 100000
set_option maxHeartbeats 64000000
open Go.Proofs.Tryz

namespace Go.Proofs.YtfffibepcdlldaaGreat
open Go.ChangeShapes Go.WideShapes Go.ChangeAt Go.RowKit
namespace RD
open DC (Of Ls Ps Ou Sm)
open IN (Keeps)
open IS (I64)
theorem DC_stat_s {Kp:DC.Cn}{q:Nat}{S:Sm}{D:NT.Ds}{P:Ps}{O:Ou}(pid fd:Int)(w:World)(h:DC.DS Kp q S D P O w)(hp:I64 pid) :
 Calls prog 95 #[.pointer (some ⟨Kp.g,0,none⟩),.int .i64 pid,.int .i64 fd] w fun e w'=>e=.returned (.tuple #[.agg (DC.stR S P O pid fd).1.toArray,.int .i64 (DC.stR S P O pid fd).2])/\Below w.heap.size w w':=by
 obtain⟨A,h⟩:=h;exact DC.Stat_all pid fd w h hp
theorem DC_procs_s {Kp:DC.Cn}{q:Nat}{S:Sm}{D:NT.Ds}{P:Ps}{O:Ou}(w:World)(h:DC.DS Kp q S D P O w) :
 Calls prog 21 #[.pointer (some ⟨Kp.g,0,none⟩)] w fun e w'=>∃ v,e=.returned v/\IS.LC w.heap.size w' v (DC.pids P)/\Below w.heap.size w w':=by
 obtain⟨A,h⟩:=h;exact DC.Procs_all w h
theorem DC_fds_s {Kp:DC.Cn}{q:Nat}{S:Sm}{D:NT.Ds}{P:Ps}{O:Ou}(pid:Int)(w:World)(h:DC.DS Kp q S D P O w)(hp:I64 pid) :
 Calls prog 22 #[.pointer (some ⟨Kp.g,0,none⟩),.int .i64 pid] w fun e w'=>∃ v,e=.returned v/\w'.ownsRow w.heap.size 63 5 v (DC.fdsR P O pid).length (DC.fdcl (DC.fdsR P O pid))/\Below w.heap.size w w':=by
 obtain⟨A,h⟩:=h;exact DC.Fds_all pid w h hp
theorem stR_form (S:Sm)(P:Ps)(O:Ou)(pid fd:Int):∃ a b c d e f:Int,(DC.stR S P O pid fd).1=[.int .i64 a,.int .i64 b,.int .i64 c,.int .i64 d,.int .i64 e,.int .i64 f]:=by
 unfold DC.stR
 split
 ·exact⟨0,0,0,0,0,0,rfl⟩
 ·split
  ·exact⟨0,0,0,0,0,0,rfl⟩
  ·exact DC.stV_form S _
structure N13 (Kp:DC.Cn)(G:Cd)(xg:Nat)(xl:List Value)(B0:Nat)(w0:World)(q c:Nat)(S1:Sm)(D1:NT.Ds)(P1:Ps)(O1:Ou)(S2:Sm)(D2:NT.Ds)(P2:Ps)(O2:Ou)(w:World):Prop where
 b:B13 Kp G q c S1 D1 P1 O1 S2 D2 P2 O2 B0 w0 w
 x:Blk w xg 45 xl
structure Ties (Kp:DC.Cn)(G:Cd)(B0:Nat):Prop where
 e:Kp.I=G.I/\Kp.B=G.B/\Kp.L=G.L/\Kp.files=G.files/\Kp.opens=G.opens
 L:G.L<=32768
 B:G.B<=16777216
 b1:B0<=Kp.base
 b2:B0<=G.base
section
variable {Kp:DC.Cn}{G:Cd}{xg:Nat}{xl:List Value}{q c B0:Nat}{S S1 S2 S':Sm}{D D1 D2 D':NT.Ds}{P P1 P2 P':Ps}{O O1 O2 O':Ou}{w0 w w':World}
theorem op_vt (k:Nat)(cs:Array Value)(s:Nat×Nat):¬ DC.VT k (.cells cs 45 s):=by simp[DC.VT]
theorem op_zt (k:Nat)(cs:Array Value)(s:Nat×Nat):¬ ZT k (.cells cs 45 s):=by simp[ZT,RN.UT,RN.RT,IN.DT,OT]
theorem N13.prog {q':Nat}(h:N13 Kp G xg xl B0 w0 q c S1 D1 P1 O1 S2 D2 P2 O2 w)(hB:B0<=Kp.base)(hp:DC.DO Kp q' S' D' P' O' w w'):N13 Kp G xg xl B0 w0 q' c S' D' P' O' S2 D2 P2 O2 w':=
 ⟨h.b.prog hB hp,hp.2.block _ _ h.x (op_vt _ _ _)⟩
theorem N13.doc (h:N13 Kp G xg xl B0 w0 q c S1 D1 P1 O1 S2 D2 P2 O2 w)(hB:B0<=G.base)(hr:RO G c S' D' P' O' w w'):N13 Kp G xg xl B0 w0 q (c+2) S1 D1 P1 O1 S' D' P' O' w':=
 ⟨h.b.doc hB hr,hr.2.block _ _ h.x (op_zt _ _ _)⟩
theorem N13.keep (h:N13 Kp G xg xl B0 w0 q c S1 D1 P1 O1 S2 D2 P2 O2 w)(hB:B0<=G.base)(hb:Below w.heap.size w w'):N13 Kp G xg xl B0 w0 q c S1 D1 P1 O1 S2 D2 P2 O2 w':=
 ⟨h.b.keep hB hb,h.x.keep hb⟩
theorem N13.drew (h:N13 Kp G xg xl B0 w0 q c S1 D1 P1 O1 S2 D2 P2 O2 w)(hB:B0<=G.base):N13 Kp G xg xl B0 w0 q c S1 D1 P1 O1 S2 D2 P2 O2 w.drew:=h.keep hB ⟨rfl,rfl,rfl,Nat.le_refl _,fun _ _=>rfl⟩
theorem N13.more (h:N13 Kp G xg xl B0 w0 q c S1 D1 P1 O1 S2 D2 P2 O2 w){q' c':Nat}(h1:q<=q')(h2:q'<60000)(h3:c<=c'):N13 Kp G xg xl B0 w0 q' c' S1 D1 P1 O1 S2 D2 P2 O2 w:=
 ⟨⟨h.b.ds.more h1 h2,h.b.rt.more h3,h.b.b⟩,h.x⟩
end
def Pair13 (Kp:DC.Cn)(G:Cd)(xg:Nat)(xl:List Value)(B0:Nat)(w0:World)(q c:Nat)(S:Sm)(D:NT.Ds)(P:Ps)(O:Ou)(S':Sm)(D':NT.Ds)(P':Ps)(O':Ou)(v:Value)(fp fr:FuncId)(ap ar:Array Value):Prop:=
 (∀ W,N13 Kp G xg xl B0 w0 q c S D P O S D P O W->Calls prog fp ap W fun e w'=>e=.returned v/\N13 Kp G xg xl B0 w0 (q+2) c S' D' P' O' S D P O w') /\
 (∀ W,N13 Kp G xg xl B0 w0 (q+2) c S' D' P' O' S D P O W->Calls prog fr ar W fun e w'=>e=.returned v/\N13 Kp G xg xl B0 w0 (q+2) (c+2) S' D' P' O' S' D' P' O' w')
section
variable {Kp:DC.Cn}{G:Cd}{xg:Nat}{xl:List Value}{q c B0:Nat}{S:Sm}{D:NT.Ds}{P:Ps}{O:Ou}{w0:World}(T:Ties Kp G B0)(hk:Kn G q S D P O)(hq:q<59998)(hc:c<60000)
include T hk hq hc in
theorem bo13_open (pid:Int)(p:ByteArray)(fl:Int)(hp:I64 pid)(hpl:p.size<=maxLen)(hfl:I64 fl):∃ (a:Int) (r:Int) (S':Sm) (D':NT.Ds) (P':Ps) (O':Ou),Pair13 Kp G xg xl B0 w0 q c S D P O S' D' P' O' (.tuple #[.int .i64 a,.int .i64 r]) 23 42 #[.pointer (some ⟨Kp.g,0,none⟩),.int .i64 pid,.string p,.int .i64 fl] #[.pointer (some ⟨G.d,0,none⟩),.int .i64 pid,.string p,.int .i64 fl]:=by
 obtain⟨e1,e2,e3,e4,e5⟩:=T.e;refine⟨(DC.opnR G.I G.files G.opens S D P O pid p fl).1.1,(DC.opnR G.I G.files G.opens S D P O pid p fl).1.2,(DC.opnR G.I G.files G.opens S D P O pid p fl).2.1,(DC.opnR G.I G.files G.opens S D P O pid p fl).2.2.1,(DC.opnR G.I G.files G.opens S D P O pid p fl).2.2.2.1,(DC.opnR G.I G.files G.opens S D P O pid p fl).2.2.2.2,fun W h=>?_,fun W h=>?_⟩
 ·have cP:=DC.open_s pid p fl W h.b.ds hp hpl hfl hq;rw[e1,e4,e5] at cP;exact cP.mono fun e w' hh=>⟨hh.1,h.prog T.b1 hh.2⟩
 ·exact (open_d pid p fl W h.b.rt hk hpl hc).mono fun e w' hh=>⟨hh.1,h.doc T.b2 hh.2⟩
include T hk hq in
theorem bo13_close (pid fd:Int)(hp:I64 pid):∃ (r:Int) (S':Sm) (D':NT.Ds) (P':Ps) (O':Ou),Pair13 Kp G xg xl B0 w0 q c S D P O S' D' P' O' (.int .i64 r) 24 43 #[.pointer (some ⟨Kp.g,0,none⟩),.int .i64 pid,.int .i64 fd] #[.pointer (some ⟨G.d,0,none⟩),.int .i64 pid,.int .i64 fd]:=by
 obtain⟨e1,e2,e3,e4,e5⟩:=T.e;refine⟨(DC.clsR S P O pid fd).1,(DC.clsR S P O pid fd).2.1,D,(DC.clsR S P O pid fd).2.2.1,(DC.clsR S P O pid fd).2.2.2,fun W h=>?_,fun W h=>?_⟩
 ·have cP:=DC.close_s pid fd W h.b.ds hp hq;exact cP.mono fun e w' hh=>⟨hh.1,h.prog T.b1 hh.2⟩
 ·exact (close_d pid fd W h.b.rt hk).mono fun e w' hh=>⟨hh.1,h.doc T.b2 hh.2⟩
include T hk hq in
theorem bo13_dup (pid fd:Int)(hp:I64 pid):∃ (a:Int) (r:Int) (S':Sm) (D':NT.Ds) (P':Ps) (O':Ou),Pair13 Kp G xg xl B0 w0 q c S D P O S' D' P' O' (.tuple #[.int .i64 a,.int .i64 r]) 25 44 #[.pointer (some ⟨Kp.g,0,none⟩),.int .i64 pid,.int .i64 fd] #[.pointer (some ⟨G.d,0,none⟩),.int .i64 pid,.int .i64 fd]:=by
 obtain⟨e1,e2,e3,e4,e5⟩:=T.e;refine⟨(DC.dupR G.files P O pid fd).1.1,(DC.dupR G.files P O pid fd).1.2,S,D,(DC.dupR G.files P O pid fd).2.1,(DC.dupR G.files P O pid fd).2.2,fun W h=>?_,fun W h=>?_⟩
 ·have cP:=DC.dup_s pid fd W h.b.ds hp hq;rw[e4] at cP;exact cP.mono fun e w' hh=>⟨hh.1,h.prog T.b1 hh.2⟩
 ·exact (dup_d pid fd W h.b.rt hk).mono fun e w' hh=>⟨hh.1,h.doc T.b2 hh.2⟩
include T hk hq in
theorem bo13_read (pid fd n:Int)(hp:I64 pid)(hn:I64 n):∃ (a:ByteArray) (r:Int) (S':Sm) (D':NT.Ds) (P':Ps) (O':Ou),Pair13 Kp G xg xl B0 w0 q c S D P O S' D' P' O' (.tuple #[.string a,.int .i64 r]) 26 45 #[.pointer (some ⟨Kp.g,0,none⟩),.int .i64 pid,.int .i64 fd,.int .i64 n] #[.pointer (some ⟨G.d,0,none⟩),.int .i64 pid,.int .i64 fd,.int .i64 n]:=by
 obtain⟨e1,e2,e3,e4,e5⟩:=T.e;refine⟨(DC.rdR S P O pid fd n).1.1,(DC.rdR S P O pid fd n).1.2,S,D,P,(DC.rdR S P O pid fd n).2,fun W h=>?_,fun W h=>?_⟩
 ·have cP:=DC.read_s pid fd n W h.b.ds hp hn hq;exact cP.mono fun e w' hh=>⟨hh.1,h.prog T.b1 hh.2⟩
 ·exact (read_d pid fd n W h.b.rt hk hn).mono fun e w' hh=>⟨hh.1,h.doc T.b2 hh.2⟩
include T hk hq in
theorem bo13_write (pid fd:Int)(s:ByteArray)(hp:I64 pid)(hs:s.size<=maxLen):∃ (a:Int) (r:Int) (S':Sm) (D':NT.Ds) (P':Ps) (O':Ou),Pair13 Kp G xg xl B0 w0 q c S D P O S' D' P' O' (.tuple #[.int .i64 a,.int .i64 r]) 27 46 #[.pointer (some ⟨Kp.g,0,none⟩),.int .i64 pid,.int .i64 fd,.string s] #[.pointer (some ⟨G.d,0,none⟩),.int .i64 pid,.int .i64 fd,.string s]:=by
 obtain⟨e1,e2,e3,e4,e5⟩:=T.e;refine⟨(DC.wriR G.I G.B S P O pid fd s).1.1,(DC.wriR G.I G.B S P O pid fd s).1.2,(DC.wriR G.I G.B S P O pid fd s).2.1,D,P,(DC.wriR G.I G.B S P O pid fd s).2.2,fun W h=>?_,fun W h=>?_⟩
 ·have cP:=DC.write_s pid fd s W h.b.ds hp hs hq;rw[e1,e2] at cP;exact cP.mono fun e w' hh=>⟨hh.1,h.prog T.b1 hh.2⟩
 ·exact (write_d pid fd s W h.b.rt hk T.B hs).mono fun e w' hh=>⟨hh.1,h.doc T.b2 hh.2⟩
include T hk hq in
theorem bo13_seek (pid fd n wh:Int)(hp:I64 pid)(hn:I64 n):∃ (a:Int) (r:Int) (S':Sm) (D':NT.Ds) (P':Ps) (O':Ou),Pair13 Kp G xg xl B0 w0 q c S D P O S' D' P' O' (.tuple #[.int .i64 a,.int .i64 r]) 28 90 #[.pointer (some ⟨Kp.g,0,none⟩),.int .i64 pid,.int .i64 fd,.int .i64 n,.int .i64 wh] #[.pointer (some ⟨G.d,0,none⟩),.int .i64 pid,.int .i64 fd,.int .i64 n,.int .i64 wh]:=by
 obtain⟨e1,e2,e3,e4,e5⟩:=T.e;refine⟨(DC.skR S P O pid fd n wh).1.1,(DC.skR S P O pid fd n wh).1.2,S,D,P,(DC.skR S P O pid fd n wh).2,fun W h=>?_,fun W h=>?_⟩
 ·have cP:=DC.seek_s pid fd n wh W h.b.ds hp hn hq;exact cP.mono fun e w' hh=>⟨hh.1,h.prog T.b1 hh.2⟩
 ·exact (seek_d pid fd n wh W h.b.rt hk hn).mono fun e w' hh=>⟨hh.1,h.doc T.b2 hh.2⟩
include T hk hq in
theorem bo13_trunc (pid fd n:Int)(hp:I64 pid)(hn:I64 n):∃ (r:Int) (S':Sm) (D':NT.Ds) (P':Ps) (O':Ou),Pair13 Kp G xg xl B0 w0 q c S D P O S' D' P' O' (.int .i64 r) 29 91 #[.pointer (some ⟨Kp.g,0,none⟩),.int .i64 pid,.int .i64 fd,.int .i64 n] #[.pointer (some ⟨G.d,0,none⟩),.int .i64 pid,.int .i64 fd,.int .i64 n]:=by
 obtain⟨e1,e2,e3,e4,e5⟩:=T.e;refine⟨(DC.truR S P O pid fd n).1,(DC.truR S P O pid fd n).2,D,P,O,fun W h=>?_,fun W h=>?_⟩
 ·have cP:=DC.trunc_s pid fd n W h.b.ds hp hn hq;exact cP.mono fun e w' hh=>⟨hh.1,h.prog T.b1 hh.2⟩
 ·exact (trunc_d pid fd n W h.b.rt hk hn).mono fun e w' hh=>⟨hh.1,h.doc T.b2 hh.2⟩
include T hk hq in
theorem bo13_add (pid:Int)(hp:I64 pid):∃ (r:Int) (S':Sm) (D':NT.Ds) (P':Ps) (O':Ou),Pair13 Kp G xg xl B0 w0 q c S D P O S' D' P' O' (.int .i64 r) 14 15 #[.pointer (some ⟨Kp.g,0,none⟩),.int .i64 pid] #[.pointer (some ⟨G.d,0,none⟩),.int .i64 pid]:=by
 obtain⟨e1,e2,e3,e4,e5⟩:=T.e;refine⟨(DC.addR G.files P pid).1,S,D,(DC.addR G.files P pid).2,O,fun W h=>?_,fun W h=>?_⟩
 ·have cP:=DC.add_s pid W h.b.ds hp hq;rw[e4] at cP;exact cP.mono fun e w' hh=>⟨hh.1,h.prog T.b1 hh.2⟩
 ·exact (add_d pid W h.b.rt hk).mono fun e w' hh=>⟨hh.1,h.doc T.b2 hh.2⟩
include T hk hq in
theorem bo13_clone (pid pto:Int)(hp:I64 pid)(ht:I64 pto):∃ (r:Int) (S':Sm) (D':NT.Ds) (P':Ps) (O':Ou),Pair13 Kp G xg xl B0 w0 q c S D P O S' D' P' O' (.int .i64 r) 30 92 #[.pointer (some ⟨Kp.g,0,none⟩),.int .i64 pid,.int .i64 pto] #[.pointer (some ⟨G.d,0,none⟩),.int .i64 pid,.int .i64 pto]:=by
 obtain⟨e1,e2,e3,e4,e5⟩:=T.e;refine⟨(DC.cloR P O pid pto).1,S,D,(DC.cloR P O pid pto).2.1,(DC.cloR P O pid pto).2.2,fun W h=>?_,fun W h=>?_⟩
 ·have cP:=DC.clone_s pid pto W h.b.ds hp ht hq;exact cP.mono fun e w' hh=>⟨hh.1,h.prog T.b1 hh.2⟩
 ·exact (clone_d pid pto W h.b.rt hk).mono fun e w' hh=>⟨hh.1,h.doc T.b2 hh.2⟩
include T hk hq in
theorem bo13_drop (pid:Int)(hp:I64 pid):∃ (r:Int) (S':Sm) (D':NT.Ds) (P':Ps) (O':Ou),Pair13 Kp G xg xl B0 w0 q c S D P O S' D' P' O' (.int .i64 r) 93 94 #[.pointer (some ⟨Kp.g,0,none⟩),.int .i64 pid] #[.pointer (some ⟨G.d,0,none⟩),.int .i64 pid]:=by
 obtain⟨e1,e2,e3,e4,e5⟩:=T.e;refine⟨(DC.drpR S P O pid).1,(DC.drpR S P O pid).2.1,D,(DC.drpR S P O pid).2.2.1,(DC.drpR S P O pid).2.2.2,fun W h=>?_,fun W h=>?_⟩
 ·have cP:=DC.drop_s pid W h.b.ds hp hq;exact cP.mono fun e w' hh=>⟨hh.1,h.prog T.b1 hh.2⟩
 ·exact (drop_d pid W h.b.rt hk).mono fun e w' hh=>⟨hh.1,h.doc T.b2 hh.2⟩
include T hk hq in
theorem bo13_unlink (s:ByteArray)(hs:s.size<=maxLen):∃ (r:Int) (S':Sm) (D':NT.Ds) (P':Ps) (O':Ou),Pair13 Kp G xg xl B0 w0 q c S D P O S' D' P' O' (.int .i64 r) 97 98 #[.pointer (some ⟨Kp.tg,0,none⟩),.string s] #[.pointer (some ⟨G.rt,0,none⟩),.string s]:=by
 obtain⟨e1,e2,e3,e4,e5⟩:=T.e;refine⟨NT.er (NT.unlR D s),(NT.unlS S D s).1,(NT.unlS S D s).2,P,O,fun W h=>?_,fun W h=>?_⟩
 ·have cP:=DC.unlink_s s hs W h.b.ds hq;exact cP.mono fun e w' hh=>⟨hh.1,h.prog T.b1 hh.2⟩
 ·exact (unlink_d s hs W h.b.rt hk).mono fun e w' hh=>⟨hh.1,h.doc T.b2 hh.2⟩
include T hk hq hc in
theorem bo13_link (s t:ByteArray)(hs:s.size<=maxLen)(ht:t.size<=maxLen):∃ (r:Int) (S':Sm) (D':NT.Ds) (P':Ps) (O':Ou),Pair13 Kp G xg xl B0 w0 q c S D P O S' D' P' O' (.int .i64 r) 99 100 #[.pointer (some ⟨Kp.tg,0,none⟩),.string s,.string t] #[.pointer (some ⟨G.rt,0,none⟩),.string s,.string t]:=by
 obtain⟨e1,e2,e3,e4,e5⟩:=T.e;refine⟨(NT.lnk G.L S D s t).1,(NT.lnk G.L S D s t).2.1,(NT.lnk G.L S D s t).2.2,P,O,fun W h=>?_,fun W h=>?_⟩
 ·have cP:=DC.link_s s t hs ht W h.b.ds hq;rw[e3] at cP;exact cP.mono fun e w' hh=>⟨hh.1,h.prog T.b1 hh.2⟩
 ·exact (link_d s t hs ht W h.b.rt hk (by omega)).mono fun e w' hh=>⟨hh.1,h.doc T.b2 hh.2⟩
end
end RD
end Go.Proofs.YtfffibepcdlldaaGreat
