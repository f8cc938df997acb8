/- A part. -/
import Derived.Test.YtfffibepcdlldaaGreatZA37
import Derived.Test.YtfffibepcdlldaaGreatZA33
set_option linter.unusedVariables false
set_option linter.unusedSimpArgs false
set_option maxRecDepth 100000
set_option maxHeartbeats 64000000
open Go.Proofs.Tryz

namespace Go.Proofs.YtfffibepcdlldaaGreat
open Go.ChangeShapes Go.WideShapes Go.ChangeAt Go.RowKit
namespace RD
open DC (Of Ls Ps Ou Sm lk fileR fileR_ok fileR_ne updO skR skAt wriR wrAt)
open IN (Keeps lt_of_some)
open IS (I64)
section
variable {K:Cd}{c q:Nat}{S:Sm}{D:NT.Ds}{P:Ps}{O:Ou}{vo vp:Value}{qo:List Of}{qp:List PE}{w w':World}
theorem seek_end (k:Nat)(o:Of)(x:IN.Nd)(pid fd by_:Int)(w:World)(h:RT K c S D P O w)(hk:Kn K q S D P O)(hby:I64 by_)(e:fileR P O pid fd 0=.ok k)(ho:O k=some o)(hx:S o.ino=some x) :
 Calls prog 90 #[.pointer (some ⟨K.d,0,none⟩),.int .i64 pid,.int .i64 fd,.int .i64 by_,.int .i64 2] w fun e w'=>e=.returned (.tuple #[.int .i64 (if by_ < -x.size∨by_>1048576-x.size then (0:Int) else x.size+by_),.int .i64 (if by_ < -x.size∨by_>1048576-x.size then 2 else 0)])/\RO K c S D P (if by_ < -x.size∨by_>1048576-x.size then O else updO O k (some { o with off:=x.size+by_ })) w w':=by
 have h0:=Wd h;obtain⟨⟨vo,vp,qo,qp,h1,rfl,rfl,hol⟩,htr⟩:=h;have cO:=open_raw pid fd 0 h1 hk hol;rw[e] at cO;obtain⟨hko,he,hr⟩:=Oq_some ho;obtain⟨og,cap,rfl,hgd,-,hkN,hNc,hcm,hF⟩:=h1.fo hko;rw[he] at hF;have cO:=Wd cO;have hsz:=(hk.fine.good _ _ hx).size;obtain⟨N,hN⟩:∃ N,qo.length=N:=⟨_,rfl⟩;rw[hN] at hF hkN hNc h1 hol;have hstv:IN.stV S o.ino=IN.six o.ino x.kind x.links x.opens x.size (EM.cnt x.l:Int):=by unfold IN.stV;rw[hx];rfl
 have hopr:IN.opR S o.ino=0:=by simp[IN.opR,IN.askR,hx]
 have hS:Hid (∀ W:World,Below w.heap.size w W->(W.cell? ⟨K.d,0,none⟩=some (.pointer (some ⟨K.rg,0,none⟩))/\W.cell? ⟨K.d,9,none⟩=some (.slice (some ⟨og,0,none⟩) N cap)/\W.cell? ⟨og,k*4,none⟩=some (.int .i64 o.ino)/\Below w.heap.size w W)):=Wd fun W hb'=>⟨(hF _ (h1.keep hb')).s0,(hF _ (h1.keep hb')).s9,(hF _ (h1.keep hb')).o0,hb'⟩;have hA:Hid (∀ (W:World) (X:Obj),(W.cell? ⟨K.d,0,none⟩=some (.pointer (some ⟨K.rg,0,none⟩))/\W.cell? ⟨K.d,9,none⟩=some (.slice (some ⟨og,0,none⟩) N cap)/\W.cell? ⟨og,k*4,none⟩=some (.int .i64 o.ino)/\Below w.heap.size w W)->((W.alloc X).cell? ⟨K.d,0,none⟩=some (.pointer (some ⟨K.rg,0,none⟩))/\(W.alloc X).cell? ⟨K.d,9,none⟩=some (.slice (some ⟨og,0,none⟩) N cap)/\(W.alloc X).cell? ⟨og,k*4,none⟩=some (.int .i64 o.ino)/\Below w.heap.size w (W.alloc X))):=Wd fun W X hh=>hS.out _ (hh.2.2.2.alloc hh.2.2.2.size X);have hT:Hid (∀ (W:World) (b:Nat) (a1 a2 a3 a4 a5 a6:Int),w.heap.size<=b->(W.cell? ⟨K.d,0,none⟩=some (.pointer (some ⟨K.rg,0,none⟩))/\W.cell? ⟨K.d,9,none⟩=some (.slice (some ⟨og,0,none⟩) N cap)/\W.cell? ⟨og,k*4,none⟩=some (.int .i64 o.ino)/\Below w.heap.size w W)->(((((((W.setCell ⟨b,0,none⟩ (.int .i64 a1)).setCell ⟨b,1,none⟩ (.int .i64 a2)).setCell ⟨b,2,none⟩ (.int .i64 a3)).setCell ⟨b,3,none⟩ (.int .i64 a4)).setCell ⟨b,4,none⟩ (.int .i64 a5)).setCell ⟨b,5,none⟩ (.int .i64 a6)).cell? ⟨K.d,0,none⟩=some (.pointer (some ⟨K.rg,0,none⟩))/\((((((W.setCell ⟨b,0,none⟩ (.int .i64 a1)).setCell ⟨b,1,none⟩ (.int .i64 a2)).setCell ⟨b,2,none⟩ (.int .i64 a3)).setCell ⟨b,3,none⟩ (.int .i64 a4)).setCell ⟨b,4,none⟩ (.int .i64 a5)).setCell ⟨b,5,none⟩ (.int .i64 a6)).cell? ⟨K.d,9,none⟩=some (.slice (some ⟨og,0,none⟩) N cap)/\((((((W.setCell ⟨b,0,none⟩ (.int .i64 a1)).setCell ⟨b,1,none⟩ (.int .i64 a2)).setCell ⟨b,2,none⟩ (.int .i64 a3)).setCell ⟨b,3,none⟩ (.int .i64 a4)).setCell ⟨b,4,none⟩ (.int .i64 a5)).setCell ⟨b,5,none⟩ (.int .i64 a6)).cell? ⟨og,k*4,none⟩=some (.int .i64 o.ino)/\Below w.heap.size w ((((((W.setCell ⟨b,0,none⟩ (.int .i64 a1)).setCell ⟨b,1,none⟩ (.int .i64 a2)).setCell ⟨b,2,none⟩ (.int .i64 a3)).setCell ⟨b,3,none⟩ (.int .i64 a4)).setCell ⟨b,4,none⟩ (.int .i64 a5)).setCell ⟨b,5,none⟩ (.int .i64 a6)))):=Wd fun W b a1 a2 a3 a4 a5 a6 hb hh=>hS.out _ (IN.six_below hh.2.2.2 hb a1 a2 a3 a4 a5 a6)
 have cS:Hid (∀ W:World,(W.cell? ⟨K.d,0,none⟩=some (.pointer (some ⟨K.rg,0,none⟩))/\W.cell? ⟨K.d,9,none⟩=some (.slice (some ⟨og,0,none⟩) N cap)/\W.cell? ⟨og,k*4,none⟩=some (.int .i64 o.ino)/\Below w.heap.size w W)->Calls prog 88 #[.pointer (some ⟨K.rg,0,none⟩),.int .i64 o.ino] W fun e w'=>e=.returned (.tuple #[.agg #[.int .i64 o.ino,.int .i64 x.kind,.int .i64 x.links,.int .i64 x.opens,.int .i64 x.size,.int .i64 (EM.cnt x.l:Int)],.int .i64 0])/\(w'.cell? ⟨K.d,0,none⟩=some (.pointer (some ⟨K.rg,0,none⟩))/\w'.cell? ⟨K.d,9,none⟩=some (.slice (some ⟨og,0,none⟩) N cap)/\w'.cell? ⟨og,k*4,none⟩=some (.int .i64 o.ino)/\Below w.heap.size w w')/\Below W.heap.size W w'):=Wd (by
  intro W hh;have:=IN.rStat_any o.ino W hk.fine hk.lim.1 (htr.rs.keep hh.2.2.2);rw[hstv,hopr] at this;refine this.mono ?_;rintro e w' ⟨rfl,hb⟩
  exact⟨rfl,hS.out _ (hh.2.2.2.trans (hb.mono hh.2.2.2.size)),hb⟩)
 have z0:Hid (∀ W1 w3:World,Below (W1.alloc (.cells #[.int .i64 0,.int .i64 0,.int .i64 0,.int .i64 0,.int .i64 0,.int .i64 0] 65)).drew.heap.size (W1.alloc (.cells #[.int .i64 0,.int .i64 0,.int .i64 0,.int .i64 0,.int .i64 0,.int .i64 0] 65)).drew w3->Blk w3 W1.heap.size 65 IN.zl):=Wd fun W1 w3 hb=>(show Blk (W1.alloc (.cells #[.int .i64 0,.int .i64 0,.int .i64 0,.int .i64 0,.int .i64 0,.int .i64 0] 65)).drew W1.heap.size 65 IN.zl from Blk.new W1 65 IN.zl rfl).keep hb;have hG:Hid (∀ W:World,(W.cell? ⟨K.d,0,none⟩=some (.pointer (some ⟨K.rg,0,none⟩))/\W.cell? ⟨K.d,9,none⟩=some (.slice (some ⟨og,0,none⟩) N cap)/\W.cell? ⟨og,k*4,none⟩=some (.int .i64 o.ino)/\Below w.heap.size w W)->FO K (.slice (some ⟨og,0,none⟩) N cap) og k o W):=Wd fun W hh=>hF W (h1.keep hh.2.2.2);have hd1:K.d<w.heap.size:=h1.box.lt;have hd2:og<w.heap.size:=(h1.ro.lt _ rfl).2;have hNe:Hid (∀ b,w.heap.size<=b->¬ K.d=b/\¬ og=b/\¬ b=K.d/\¬ b=og):=Wd fun b hb=>⟨by omega,by omega,by omega,by omega⟩;have hb1:=hby.1;have hb2:=hby.2;have fin:Hid (∀ W:World,(W.cell? ⟨K.d,0,none⟩=some (.pointer (some ⟨K.rg,0,none⟩))/\W.cell? ⟨K.d,9,none⟩=some (.slice (some ⟨og,0,none⟩) N cap)/\W.cell? ⟨og,k*4,none⟩=some (.int .i64 o.ino)/\Below w.heap.size w W)->RO K c S D (Pq qp) (updO (Oq qo) k (some { o with off:=x.size+by_ })) w (W.setCell ⟨og,k*4+1,none⟩ (.int .i64 (x.size+by_)))):=Wd fun W hh=>seek_fin h1 (by omega) htr hko he hr hh.2.2.2 (x.size+by_);have hE:Hid (∀ W:World,(W.cell? ⟨K.d,0,none⟩=some (.pointer (some ⟨K.rg,0,none⟩))/\W.cell? ⟨K.d,9,none⟩=some (.slice (some ⟨og,0,none⟩) N cap)/\W.cell? ⟨og,k*4,none⟩=some (.int .i64 o.ino)/\Below w.heap.size w W)->RO K c S D (Pq qp) (Oq qo) w W):=Wd fun W hh=>h0.out.same hh.2.2.2;have hw1:IntKind.i64.wrap (-x.size) = -x.size:=by rw[IntKind.wrap_i64];omega
 have hw2:IntKind.i64.wrap (1048576-x.size)=1048576-x.size:=by rw[IntKind.wrap_i64];omega
 clear h1 hk hol htr e hF hx ho he hko hr hstv hopr hd1 hd2 h0 hN
 by_cases q1:by_ < -x.size
 ·simp only[if_pos (Or.inl q1:by_ < -x.size∨by_>1048576-x.size)];have d1:decide (by_ < -x.size)=true:=decide_eq_true (by omega);clear q1 hb1 hb2 hby hsz fin;go_enter func90,ntmps90
  go_wp2_with fail
  refine cO.out.mono ?_;rintro e w1 ⟨rfl,b1⟩;have sA1:=Wd (hS.out w1.drew b1.drew);have sB1:=Wd (hS.out _ (b1.alloc b1.size (.cells #[.int .i64 0,.int .i64 0,.int .i64 0,.int .i64 0,.int .i64 0,.int .i64 0] 65)).drew);have g:=hG.out w1 (hS.out w1 b1);have t9:=g.s9;have t1:=g.o1;have t2:=g.o2;have fz:=g.fz;have hs1:=b1.size;obtain⟨m1,m2,m3,m4⟩:=hNe.out w1.heap.size hs1;clear g b1;simp only[fileA];clear hS cO;go_wp2_with fail
  go_region_held3 (fun w'=>w'.cell? ⟨K.d,0,none⟩=some (.pointer (some ⟨K.rg,0,none⟩))/\w'.cell? ⟨K.d,9,none⟩=some (.slice (some ⟨og,0,none⟩) N cap)/\w'.cell? ⟨og,k*4,none⟩=some (.int .i64 o.ino)/\Below w.heap.size w w') (with_reducible (first|exact sA1.out|exact sB1.out|assumption|exact hA.out _ _ (by assumption)|exact hT.out _ _ _ _ _ _ _ _ (by assumption) (by assumption)))
   (first
    | (go_at_call 88;refine (cS.out _ (by with_reducible (first|exact sA1.out|exact sB1.out|assumption|exact hA.out _ _ (by assumption)))).mono ?_;rintro e w3 ⟨rfl,S3,hZ⟩
       have hs3:=S3.2.2.2.size;obtain⟨p1,p2,p3,p4⟩:=hNe.out w3.heap.size hs3;have f3:=hG.out w3 S3;have y1:=f3.s9;have y2:=f3.o1;have y3:=f3.fz;have y4:=f3.o0;have y5:=f3.s0;clear f3;have x1:∀ ob,(w3.alloc ob).cell? ⟨og,k*4+1,none⟩=some (.int .i64 o.off):=fun ob=>(hG.out _ (hA.out w3 ob S3)).o1;have x2:∀ ob,(w3.alloc ob).frozen? ⟨og,k*4+1,none⟩=false:=fun ob=>(hG.out _ (hA.out w3 ob S3)).fz _
       try (with_reducible (have hz:Blk w3 w1.heap.size 65 IN.zl:=z0.out _ _ hZ;have r0:=hz.cell (j:=0) rfl;have r1:=hz.cell (j:=1) rfl;have r2:=hz.cell (j:=2) rfl;have r3:=hz.cell (j:=3) rfl;have r4:=hz.cell (j:=4) rfl;have r5:=hz.cell (j:=5) rfl;have fz5:=hz.fz;clear hz))
       clear hZ))
  all_goals
   go_wp2_with fail
   go_ret2
   exact⟨rfl,hE.out _ (by with_reducible assumption)⟩
 ·by_cases q2:by_>1048576-x.size
  ·simp only[if_pos (Or.inr q2:by_ < -x.size∨by_>1048576-x.size)];have d1:decide (by_ < -x.size)=false:=decide_eq_false (by omega);have d2:decide (by_>1048576-x.size)=true:=decide_eq_true (by omega);have d3:decide (1048576-x.size<by_)=true:=decide_eq_true (by omega);clear q1 q2 hb1 hb2 hby hsz fin;go_enter func90,ntmps90
   go_wp2_with fail
   refine cO.out.mono ?_;rintro e w1 ⟨rfl,b1⟩;have sA1:=Wd (hS.out w1.drew b1.drew);have sB1:=Wd (hS.out _ (b1.alloc b1.size (.cells #[.int .i64 0,.int .i64 0,.int .i64 0,.int .i64 0,.int .i64 0,.int .i64 0] 65)).drew);have g:=hG.out w1 (hS.out w1 b1);have t9:=g.s9;have t1:=g.o1;have t2:=g.o2;have fz:=g.fz;have hs1:=b1.size;obtain⟨m1,m2,m3,m4⟩:=hNe.out w1.heap.size hs1;clear g b1;simp only[fileA];clear hS cO;go_wp2_with fail
   go_region_held3 (fun w'=>w'.cell? ⟨K.d,0,none⟩=some (.pointer (some ⟨K.rg,0,none⟩))/\w'.cell? ⟨K.d,9,none⟩=some (.slice (some ⟨og,0,none⟩) N cap)/\w'.cell? ⟨og,k*4,none⟩=some (.int .i64 o.ino)/\Below w.heap.size w w') (with_reducible (first|exact sA1.out|exact sB1.out|assumption|exact hA.out _ _ (by assumption)|exact hT.out _ _ _ _ _ _ _ _ (by assumption) (by assumption)))
    (first
     | (go_at_call 88;refine (cS.out _ (by with_reducible (first|exact sA1.out|exact sB1.out|assumption|exact hA.out _ _ (by assumption)))).mono ?_;rintro e w3 ⟨rfl,S3,hZ⟩
        have hs3:=S3.2.2.2.size;obtain⟨p1,p2,p3,p4⟩:=hNe.out w3.heap.size hs3;have f3:=hG.out w3 S3;have y1:=f3.s9;have y2:=f3.o1;have y3:=f3.fz;have y4:=f3.o0;have y5:=f3.s0;clear f3;have x1:∀ ob,(w3.alloc ob).cell? ⟨og,k*4+1,none⟩=some (.int .i64 o.off):=fun ob=>(hG.out _ (hA.out w3 ob S3)).o1;have x2:∀ ob,(w3.alloc ob).frozen? ⟨og,k*4+1,none⟩=false:=fun ob=>(hG.out _ (hA.out w3 ob S3)).fz _
        try (with_reducible (have hz:Blk w3 w1.heap.size 65 IN.zl:=z0.out _ _ hZ;have r0:=hz.cell (j:=0) rfl;have r1:=hz.cell (j:=1) rfl;have r2:=hz.cell (j:=2) rfl;have r3:=hz.cell (j:=3) rfl;have r4:=hz.cell (j:=4) rfl;have r5:=hz.cell (j:=5) rfl;have fz5:=hz.fz;clear hz))
        clear hZ))
   all_goals
    go_wp2_with fail
    go_ret2
    exact⟨rfl,hE.out _ (by with_reducible assumption)⟩
  ·simp only[if_neg (fun h=>h.elim q1 q2:¬ (by_ < -x.size∨by_>1048576-x.size))];have d1:decide (by_ < -x.size)=false:=decide_eq_false (by omega);have d2:decide (by_>1048576-x.size)=false:=decide_eq_false (by omega);have d3:decide (1048576-x.size<by_)=false:=decide_eq_false (by omega);have hw3:IntKind.i64.wrap (x.size+by_)=x.size+by_:=by rw[IntKind.wrap_i64];omega
   clear q1 q2 hb1 hb2 hby hsz hE;go_enter func90,ntmps90
   go_wp2_with fail
   refine cO.out.mono ?_;rintro e w1 ⟨rfl,b1⟩;have sA1:=Wd (hS.out w1.drew b1.drew);have sB1:=Wd (hS.out _ (b1.alloc b1.size (.cells #[.int .i64 0,.int .i64 0,.int .i64 0,.int .i64 0,.int .i64 0,.int .i64 0] 65)).drew);have g:=hG.out w1 (hS.out w1 b1);have t9:=g.s9;have t1:=g.o1;have t2:=g.o2;have fz:=g.fz;have hs1:=b1.size;obtain⟨m1,m2,m3,m4⟩:=hNe.out w1.heap.size hs1;clear g b1;simp only[fileA];clear hS cO;go_wp2_with fail
   go_region_held3 (fun w'=>w'.cell? ⟨K.d,0,none⟩=some (.pointer (some ⟨K.rg,0,none⟩))/\w'.cell? ⟨K.d,9,none⟩=some (.slice (some ⟨og,0,none⟩) N cap)/\w'.cell? ⟨og,k*4,none⟩=some (.int .i64 o.ino)/\Below w.heap.size w w') (with_reducible (first|exact sA1.out|exact sB1.out|assumption|exact hA.out _ _ (by assumption)|exact hT.out _ _ _ _ _ _ _ _ (by assumption) (by assumption)))
    (first
     | (go_at_call 88;refine (cS.out _ (by with_reducible (first|exact sA1.out|exact sB1.out|assumption|exact hA.out _ _ (by assumption)))).mono ?_;rintro e w3 ⟨rfl,S3,hZ⟩
        have hs3:=S3.2.2.2.size;obtain⟨p1,p2,p3,p4⟩:=hNe.out w3.heap.size hs3;have f3:=hG.out w3 S3;have y1:=f3.s9;have y2:=f3.o1;have y3:=f3.fz;have y4:=f3.o0;have y5:=f3.s0;clear f3;have x1:∀ ob,(w3.alloc ob).cell? ⟨og,k*4+1,none⟩=some (.int .i64 o.off):=fun ob=>(hG.out _ (hA.out w3 ob S3)).o1;have x2:∀ ob,(w3.alloc ob).frozen? ⟨og,k*4+1,none⟩=false:=fun ob=>(hG.out _ (hA.out w3 ob S3)).fz _
        try (with_reducible (have hz:Blk w3 w1.heap.size 65 IN.zl:=z0.out _ _ hZ;have r0:=hz.cell (j:=0) rfl;have r1:=hz.cell (j:=1) rfl;have r2:=hz.cell (j:=2) rfl;have r3:=hz.cell (j:=3) rfl;have r4:=hz.cell (j:=4) rfl;have r5:=hz.cell (j:=5) rfl;have fz5:=hz.fz;clear hz))
        clear hZ))
   all_goals
    go_wp2_with fail
    go_ret2
    exact⟨rfl,fin.out _ (by with_reducible assumption)⟩
theorem seek_d (pid fd by_ wh:Int)(w:World)(h:RT K c S D P O w)(hk:Kn K q S D P O)(hby:I64 by_) :
 Calls prog 90 #[.pointer (some ⟨K.d,0,none⟩),.int .i64 pid,.int .i64 fd,.int .i64 by_,.int .i64 wh] w fun e w'=>e=.returned (.tuple #[.int .i64 (skR S P O pid fd by_ wh).1.1,.int .i64 (skR S P O pid fd by_ wh).1.2])/\RO K c S D P (skR S P O pid fd by_ wh).2 w w':=by
 unfold skR
 cases e:fileR P O pid fd 0 with
 | error c0=>exact seek_no pid fd by_ wh w h hk e
 | ok k=>
   obtain⟨L,o,j,h2,hfd,h3,h4,h5,h6⟩:=fileR_ok e;obtain⟨x,hx,hkd⟩:=hk.di.ino k o h5;simp only[h5,hx];unfold skAt
   by_cases w0:wh=0
   ·subst w0;have:=seek_set k o x pid fd by_ w h hk hby e h5 hx;simp only[if_true]
    split <;> rename_i hc
    ·simp only[if_pos hc] at this;exact this
    ·simp only[if_neg hc] at this;exact this
   ·by_cases w1:wh=1
    ·subst w1;have:=seek_cur k o x pid fd by_ w h hk hby e h5 hx;simp only[if_neg w0,if_true]
     split <;> rename_i hc
     ·simp only[if_pos hc] at this;exact this
     ·simp only[if_neg hc] at this;exact this
    ·by_cases w2:wh=2
     ·subst w2;have:=seek_end k o x pid fd by_ w h hk hby e h5 hx;simp only[if_neg w0,if_neg w1,if_true]
      split <;> rename_i hc
      ·simp only[if_pos hc] at this;exact this
      ·simp only[if_neg hc] at this;exact this
     ·simp only[if_neg w0,if_neg w1,if_neg w2];exact seek_what k o x pid fd by_ wh w h hk hby e h5 hx w0 w1 w2
end
end RD
namespace RD
open DC (Of Ls Ps Ou Sm lk fileR fileR_ok fileR_ne updO)
open IN (Keeps lt_of_some)
open IS (I64)
section
variable {K:Cd}{c q:Nat}{S:Sm}{D:NT.Ds}{P:Ps}{O:Ou}{vo vp:Value}{qo:List Of}{qp:List PE}{w w':World}
theorem write_no (pid fd:Int)(s:ByteArray)(w:World)(h:RT K c S D P O w)(hk:Kn K q S D P O){c0:Int}(e:fileR P O pid fd 2=.error c0) :
 Calls prog 46 #[.pointer (some ⟨K.d,0,none⟩),.int .i64 pid,.int .i64 fd,.string s] w fun e w'=>e=.returned (.tuple #[.int .i64 0,.int .i64 c0])/\RO K c S D P O w w':=by
 have h0:=Wd h;obtain⟨⟨vo,vp,qo,qp,h1,rfl,rfl,hol⟩,htr⟩:=h;have cO:=open_raw pid fd 2 h1 hk hol;rw[e] at cO;have hne:(c0 != 0)=true:=by simpa using fileR_ne e
 have cO:=Wd cO;clear h1 hk hol htr e;go_enter func46,ntmps46
 go_wp2_with fail
 refine cO.out.mono ?_;rintro e w1 ⟨rfl,b1⟩;have b1:=Wd b1;simp only[fileA];go_wp2_with fail
 go_ret2
 exact⟨rfl,h0.out.same b1.out⟩
theorem write_at (k:Nat)(o:Of)(x:IN.Nd)(pid fd:Int)(s:ByteArray)(w:World)(h:RT K c S D P O w)(hk:Kn K q S D P O)(hB:K.B<=16777216)(hs:s.size<=maxLen)(e:fileR P O pid fd 2=.ok k)(ho:O k=some o)(hx:S o.ino=some x)(hfl:(bits .and .i64 o.flags 32 != 0)=false) :
 Calls prog 46 #[.pointer (some ⟨K.d,0,none⟩),.int .i64 pid,.int .i64 fd,.string s] w fun e w'=>e=.returned (.tuple #[.int .i64 (if IN.wrErr K.I K.B S o.ino o.off s=0 then (s.size:Int) else 0),.int .i64 (IN.wrErr K.I K.B S o.ino o.off s)])/\RO K c (IN.wrS K.I K.B S o.ino o.off s) D P (if IN.wrErr K.I K.B S o.ino o.off s=0 then updO O k (some { o with off:=o.off+s.size }) else O) w w':=by
 have h0:=Wd h;obtain⟨⟨vo,vp,qo,qp,h1,rfl,rfl,hol⟩,htr⟩:=h;have cO:=open_raw pid fd 2 h1 hk hol;rw[e] at cO;obtain⟨hko,he,hr⟩:=Oq_some ho;have hoff:=hk.di.off k o ho;obtain⟨x',hx',hkd⟩:=hk.di.ino k o ho;rw[hx] at hx'
 cases hx'
 obtain⟨og,cap,rfl,hgd,-,hkN,hNc,hcm,hF⟩:=h1.fo hko;rw[he] at hF;have cO:=Wd cO;have hm:(maxLen:Nat)=maxLen:=rfl;have hbd:=Wd (fun he=>DC.wr_bound (I:=K.I) (B:=K.B) (S:=S) (n:=o.ino) (f:=o.off) (s:=s) hx hkd he);have sA:=Wd (fun (w1:World) (b1:Below w.heap.size w w1)=>hF _ ((h1.keep b1).keep (drew1_below w1)));have sC:=Wd (fun (w1:World) (b1:Below w.heap.size w w1)=>hF _ (h1.keep b1));have cT:=Wd (fun (w1:World) (b1:Below w.heap.size w w1)=>IN.rWr_yes o.ino o.off s x w1.drew hk.fine hk.lim.1 hB ((htr.rs.keep b1).keep (drew1_below w1)) ⟨by omega,by omega⟩ hs hx hkd)
 have next:Hid (∀ w1 w3:World,Below w.heap.size w w1->IN.RS K.base w3 K.rg (K.I:Int) (K.B:Int) (K.L:Int) (IN.lst (IN.wrS K.I K.B S o.ino o.off s) K.I)->Keeps K.base IN.DT w1.drew w3->FO K (.slice (some ⟨og,0,none⟩) qo.length cap) og k o w3/\Hid (RO K c (IN.wrS K.I K.B S o.ino o.off s) D (Pq qp) (Oq qo) w w3)/\Hid (RO K c (IN.wrS K.I K.B S o.ino o.off s) D (Pq qp) (updO (Oq qo) k (some { o with off:=o.off+s.size })) w (w3.setCell ⟨og,k*4+1,none⟩ (.int .i64 (o.off+s.size))))):=Wd (by
  intro w1 w3 b1 hrs k3;have hh:=store_next (S':=IN.wrS K.I K.B S o.ino o.off s) h1 hol htr b1 hrs k3.undrew;have tr3:=tr_store (S':=IN.wrS K.I K.B S o.ino o.off s) (htr.keep b1) k3.undrew hrs;have hg:=seek_fin hh.1 hol tr3 hko he hr (Below.refl _ _) (o.off+s.size)
  exact⟨hF _ hh.1,Wd hh.2,Wd ⟨hg.1,((Keeps.new b1 h1.low).trans (ZT_store k3.undrew)).trans hg.2⟩⟩)
 generalize IN.wrErr K.I K.B S o.ino o.off s=E at *;generalize IN.wrS K.I K.B S o.ino o.off s=S2 at *;clear h1 hk hol htr e hF h0 he hko hr hoff hx hkd ho hm hB hs;generalize qo.length=N at *
 by_cases hE:E=0
 ·subst hE;rw[if_pos rfl,if_pos rfl];have hb2:=hbd.out rfl;have hw:IntKind.i64.wrap (o.off+(s.size:Int))=o.off+(s.size:Int):=by rw[IntKind.wrap_i64];omega
  clear hb2 hbd;go_enter func46,ntmps46
  go_wp2_with fail
  refine cO.out.mono ?_;rintro e w1 ⟨rfl,b1⟩;have sA1:=sA.out w1 b1;have t1:=sA1.s0;have t2:=sA1.s9;have t3:=sA1.o0;have sC1:=sC.out w1 b1;have t4:=sC1.s9;have t5:=sC1.o1;have t6:=sC1.o2;clear sA1 sC1;have cT1:=Wd (cT.out w1 b1);have next1:=Wd (fun w3=>next.out w1 w3 b1);clear cT next sA sC b1;simp only[fileA];go_wp2_with fail
  go_region_held3 (fun w'=>w'.cell? ⟨K.d,0,none⟩=some (.pointer (some ⟨K.rg,0,none⟩))/\w'.cell? ⟨K.d,9,none⟩=some (.slice (some ⟨og,0,none⟩) N cap)/\w'.cell? ⟨og,k*4,none⟩=some (.int .i64 o.ino)) (with_reducible (first|assumption|exact⟨t1,t2,t3⟩))
   (first
    | (go_at_call 89;refine cT1.out.mono ?_;rintro e w3 ⟨rfl,hp3,k3⟩;obtain⟨f3,hfn,hfin⟩:=next1.out w3 hp3 k3;have S3:=And.intro f3.s0 (And.intro f3.s9 f3.o0);have y1:=f3.s9;have y2:=f3.o1;have y3:=f3.fz;clear f3 hp3 k3 hfn))
  all_goals
   go_wp2_with fail
   go_ret2
   exact⟨rfl,hfin.out⟩
 ·rw[if_neg hE,if_neg hE];have hEb:(E != 0)=true:=by simpa using hE
  clear hE;go_enter func46,ntmps46
  go_wp2_with fail
  refine cO.out.mono ?_;rintro e w1 ⟨rfl,b1⟩;have sA1:=sA.out w1 b1;have t1:=sA1.s0;have t2:=sA1.s9;have t3:=sA1.o0;have sC1:=sC.out w1 b1;have t4:=sC1.s9;have t5:=sC1.o1;have t6:=sC1.o2;clear sA1 sC1;have cT1:=Wd (cT.out w1 b1);have next1:=Wd (fun w3=>next.out w1 w3 b1);clear cT next sA sC b1;simp only[fileA];go_wp2_with fail
  go_region_held3 (fun w'=>w'.cell? ⟨K.d,0,none⟩=some (.pointer (some ⟨K.rg,0,none⟩))/\w'.cell? ⟨K.d,9,none⟩=some (.slice (some ⟨og,0,none⟩) N cap)/\w'.cell? ⟨og,k*4,none⟩=some (.int .i64 o.ino)) (with_reducible (first|assumption|exact⟨t1,t2,t3⟩))
   (first
    | (go_at_call 89;refine cT1.out.mono ?_;rintro e w3 ⟨rfl,hp3,k3⟩;obtain⟨f3,hfn,hfin⟩:=next1.out w3 hp3 k3;have S3:=And.intro f3.s0 (And.intro f3.s9 f3.o0);clear f3 hp3 k3 hfin))
  all_goals
   go_wp2_with fail
   go_ret2
   exact⟨rfl,hfn.out⟩
end
end RD
end Go.Proofs.YtfffibepcdlldaaGreat
