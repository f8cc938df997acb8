/- A part. -/
import Derived.Test.YtfffibepcdlldaaGreatZA27
import Derived.Test.YtfffibepcdlldaaGreatZA17
set_option linter.unusedVariables false
set_option linter.unusedSimpArgs false
set_option maxRecDepth 100000
set_option maxHeartbeats 64000000
open Go.Proofs.Tryz

namespace Go.Proofs.YtfffibepcdlldaaGreat
open Go.ChangeShapes Go.WideShapes Go.ChangeAt Go.RowKit
namespace RN
open IN (Keeps)
open NT (Dr Ds er nu findR)
def UT (k:Nat)(o:Obj):Prop:=RT k o∨IN.DT k o
section
variable {base:Nat}{w w':World}{rt rg:Nat}{v:Value}{q:List QE}
theorem keeps_rt (h:Keeps base RT w w'):Keeps base UT w w':=NT.keeps_wide h fun k o _ hT=>.inl hT
theorem keeps_dt (h:Keeps base IN.DT w w'):Keeps base UT w w':=NT.keeps_wide h fun k o _ hT=>.inr hT
theorem DT.keeps {l:List DD}(h:DT base w rt rg l){C:Nat}{T:Nat->Obj->Prop}(hK:Keeps C T w w')(h1:∀ k c s,¬ T k (.cells c 156 s))(h2:∀ k c s,¬ T k (.cells c 153 s))(h3:∀ k c,¬ T k (.cells c 201 (0,0))):DT base w' rt rg l:=by
 obtain⟨v,q,k1,k2⟩:=h.ex;exact⟨⟨v,q,k1.keeps hK h1 h2,k2.keeps hK h3⟩,h.few⟩
theorem DT.low {l:List DD}(h:DT base w rt rg l):base<=w.heap.size:=by
 obtain⟨v,q,k1,k2⟩:=h.ex;exact k1.low
theorem DT.store {l:List DD}(h:DT base w rt rg l){C:Nat}(hK:Keeps C IN.DT w w'):DT base w' rt rg l:=h.keeps hK (by simp[IN.DT]) (by simp[IN.DT]) (by simp[IN.DT])
theorem RS.tree {I B L:Int}{l:List (Nat×IN.Nd)}(h:IN.RS base w rg I B L l){C:Nat}(hK:Keeps C RT w w'):IN.RS base w' rg I B L l:=h.keeps hK (by simp[RT]) (by simp[RT]) (by simp[RT])
theorem DM.newRow {w1:World}(h:DM base w rt rg v q)(hb:Below w.heap.size w w1){v':Value}{q':List QE}(ho:w1.ownsRow w.heap.size 153 3 v' q'.length (qcl q')) :
 DM base (w1.setCell ⟨rt,1,none⟩ v') rt rg v' q'/\Keeps base RT w (w1.setCell ⟨rt,1,none⟩ v'):=by
 have h1:=h.keep hb;have hlt:=h.box.lt;refine⟨⟨h1.box.set 1 v',Own.low h.low (Own.set ho (p:=⟨rt,1,none⟩) hlt v'),h.ge⟩,?_⟩;exact (Keeps.new hb h.low).trans ((Keeps.refl base RT w1).setCell (p:=⟨rt,1,none⟩) h1.box (.inl ⟨_,_,rfl⟩) h.ge v')
theorem info_dir:Own.Info prog 153 (.agg #[.int .i64 0,.int .i64 0,.slice none 0 0]) 3 40:=Own.info_of (by kernel_rfl) rfl (by decide)
theorem elem_dir:prog.elem 154=153:=by kernel_rfl
theorem NE.one {w:World}{v:Value}{l:List (ByteArray×Int×Int)}(h:NE w v l):v.oneCell'=true:=by
 obtain⟨ao,cap,rfl⟩:=h.form
 rfl
theorem Fit.one:∀ {q:List QE} {l:List DD},Fit w q l->∀ u∈qcl q,u.oneCell'=true
 | [],[],_,u,hu=>by cases hu
 | x :: q,y :: l,h,u,hu=>by
   rw[show x :: q=[x] ++ q from rfl,qcl_app,qcl_one] at hu;rcases List.mem_append.1 hu with hu|hu
   ·simp only[qrow,List.mem_cons,List.not_mem_nil,or_false] at hu;rcases hu with rfl|rfl|rfl
    ·rfl
    ·rfl
    ·exact h.1.v.one
   ·exact Fit.one h.2 u hu
 | [],y :: l,h,_,_=>h.elim
 | x :: q,[],h,_,_=>h.elim
theorem DT.ptr {l:List DD}(h:DT base w rt rg l):w.cell? ⟨rt,0,none⟩=some (.pointer (some ⟨rg,0,none⟩)):=by
 obtain⟨v,q,k1,k2⟩:=h.ex;exact k1.box.cell (j:=0) rfl
variable {I B L k:Nat}{S:Int->Option IN.Nd}
theorem raway_file (n:Int){l:List DD}(w:World)(h:DT base w rt rg l)(hn:¬ ix l n<l.length)(hf:IN.Fine I L B k S)(hI:I<=4096)(hL:L<=32768)(hk:k<1000000)(hS:IN.RS base w rg (I:Int) (B:Int) (L:Int) (IN.lst S I)) :
 Calls prog 139 #[.pointer (some ⟨rt,0,none⟩),.int .i64 n] w fun e w'=>e=.returned (.tuple #[])/\DT base w' rt rg l/\IN.RS base w' rg (I:Int) (B:Int) (L:Int) (IN.lst (IN.ulS S n) I)/\Keeps base UT w w':=by
 have hda:dirA l n = -1:=by unfold dirA;rw[if_neg hn]
 have cD:=dir_t n h;rw[hda] at cD;have c0:=h.ptr;have cU:=Wd (IN.rUnlink_any n w hf hI hL hk hS);replace cD:=Wd cD;have h:=Wd h;clear hn hda hf hS;go_enter func139,ntmps139
 go_wp2_with fail
 refine cD.out.mono ?_;rintro e w1 ⟨rfl,rfl⟩;go_wp2_with fail
 refine cU.out.mono ?_;rintro e w1 ⟨rfl,hr,hK⟩;go_wp2_with fail
 go_end0
 exact⟨rfl,h.out.store hK,hr,keeps_dt hK⟩
theorem raway_dir (n:Int){l:List DD}(w:World)(h:DT base w rt rg l)(hn:ix l n<l.length)(hf:IN.Fine I L B k S)(hI:I<=4096)(hL:L<=32768)(hk:k<1000000)(hS:IN.RS base w rg (I:Int) (B:Int) (L:Int) (IN.lst S I)) :
 Calls prog 139 #[.pointer (some ⟨rt,0,none⟩),.int .i64 n] w fun e w'=>e=.returned (.tuple #[])/\DT base w' rt rg (l.eraseIdx (ix l n))/\IN.RS base w' rg (I:Int) (B:Int) (L:Int) (IN.lst (IN.ulS S n) I)/\Keeps base UT w w':=by
 have hda:dirA l n=(ix l n:Int):=by unfold dirA;rw[if_pos hn]
 have cD:=dir_t n h;rw[hda] at cD;have hfew:=h.few;obtain⟨v,q,hM,hF⟩:=h.ex;have hlen:=hF.len;obtain⟨g,cap,rfl,hbg,hgl,hgr,hNc,hcm,hfz,-,-,-⟩:=hM.el (i:=ix l n) (by omega);have hrl:=hM.box.lt;have cU:=Wd (fun W (hS':IN.RS base W rg (I:Int) (B:Int) (L:Int) (IN.lst S I))=>IN.rUnlink_any n W hf hI hL hk hS');have hle:=hfew.len
 have hfin:Hid (Few (l.take (ix l n) ++ l.drop (ix l n+1))):=Wd ⟨by rw[List.length_append,List.length_take,List.length_drop];omega,fun x hx=>hfew.names x (by
  rcases List.mem_append.1 hx with hx|hx
  ·exact List.mem_of_mem_take hx
  ·exact List.mem_of_mem_drop hx),fun x hx=>hfew.nos x (by
  rcases List.mem_append.1 hx with hx|hx
  ·exact List.mem_of_mem_take hx
  ·exact List.mem_of_mem_drop hx)⟩
 rw[List.eraseIdx_eq_take_drop_succ];generalize ix l n=p at *;obtain⟨N,hN⟩:∃ N,q.length=N:=⟨_,rfl⟩;have hpN:p<N:=by omega
 have hNl:N<=100000:=by omega
 unfold maxLen at hcm;rw[hN] at hNc hM;have c0:=hM.box.cell (j:=0) rfl;have c1:=hM.box.cell (j:=1) rfl;obtain⟨X,hmk,hmo⟩:=Own.make_room (t:=154) underlying154 info_dir N (N:Int) rfl (by omega) (by omega);obtain⟨ad,hlo,had1,had2⟩:=Own.cut_lo (t:=154) underlying154 elem_dir info_dir g 0 N cap (p+1) ((p:Int)+1) (by omega) (by omega) hNc;have hhi:=Own.cut_hi (t:=154) underlying154 elem_dir info_dir (some ⟨g,0,none⟩) N cap p (by omega) hNc (.inr ⟨_,_,rfl⟩);have hwr:IntKind.i64.wrap ((p:Int)+1)=(p:Int)+1:=IntWalk.i64_in _ (by omega);have hi3:(p:Int)+1<=(N:Int):=by omega
 have hpn':(p:Int)<(N:Int):=by omega
 have hone:∀ u∈qcl q,u.oneCell'=true:=fun u hu=>hF.one u hu;have H:=Wd hM;have HF:=Wd hF;have HS:=Wd hS;have hrow:Hid (w.ownsRow base 153 3 (.slice (some ⟨g,0,none⟩) N cap) N (qcl q)):=Wd (by have:=hM.row;rw[hN] at this;exact this);have A1:Hid ((w.alloc X).drew.ownsRow w.heap.size 153 3 (.slice (some ⟨w.heap.size,0,none⟩) 0 N) 0 []):=Wd (hmo w w.heap.size (Nat.le_refl _));have S1:=Wd ((Own.src_take hrow.out rfl p (by omega)).keep (((Below.refl _ _).alloc (Nat.le_refl _) X).drew));have S2:=Wd ((Own.src_drop hrow.out (p+1) (by omega) ad (cap-(p+1)) (by simpa using had2)).keep (((Below.refl _ _).alloc (Nat.le_refl _) X).drew));have hone1:Hid (∀ u∈(qcl q).take (p*3),u.oneCell'=true):=Wd (fun u hu=>hone u (List.mem_of_mem_take hu));have hone2:Hid (∀ u∈(qcl q).drop ((p+1)*3),u.oneCell'=true):=Wd (fun u hu=>hone u (List.mem_of_mem_drop hu));have hcut:Hid ([] ++ (qcl q).take (p*3) ++ (qcl q).drop ((p+1)*3)=qcl (q.take p ++ q.drop (p+1))/\0+p+(N-(p+1))=(q.take p ++ q.drop (p+1)).length):=Wd ⟨by rw[qcl_take,qcl_drop,qcl_app];rfl,by rw[List.length_append,List.length_take,List.length_drop,hN];omega⟩;have hend:=Wd (fun (w3:World) (v3:Value) (hb:Below w.heap.size w w3) (ho:w3.ownsRow w.heap.size 153 3 v3 (q.take p ++ q.drop (p+1)).length (qcl (q.take p ++ q.drop (p+1))))=>hM.newRow hb ho);obtain⟨adb,ado,ads⟩:=ad;simp only at had1;obtain rfl:=had1.symm;have xa:∀ ob,(w.alloc ob).cell? ⟨rt,1,none⟩=some (.slice (some ⟨g,0,none⟩) N cap):=fun ob=>(hM.box.alloc ob).cell rfl;replace hN:=Wd hN;replace hrow:=Wd hrow.out;have hbl1:Hid (g<w.heap.size):=Wd hgl;have hgl1:Hid (rt<w.heap.size):=Wd hrl;replace cD:=Wd cD;clear h hM hF hS had2 hmo hfew hone hf hda hlen hle hn hgr hfz hbg;go_enter func139,ntmps139
 go_wp2_with fail
 refine cD.out.mono ?_;rintro e w1 ⟨rfl,rfl⟩;go_wp2_with fail
 go_region_law (first
  | (refine Own.step_app rfl (.tmp 16) (.tmp 22) 154 rfl underlying154 info_dir (.slice (some ⟨w.heap.size,0,none⟩) 0 N) (.slice (some ⟨g,0,none⟩) p cap) rfl rfl A1.out (by simp) S1.out hone1.out (by unfold maxLen;omega) (by omega) ?_
     intro v2 w2 ho2 hg2 hob2;have A2:=Wd ho2;have S3:=Wd (Own.Src.grown S2.out hg2 (fun ad n c e _=>by simp only[Value.slice.injEq,Option.some.injEq] at e;have:=hbl1.out;obtain⟨rfl,-,-⟩:=e;simp[Value.ownBlock];omega));have x2b:w2.cell? ⟨rt,1,none⟩=some (.slice (some ⟨g,0,none⟩) N cap):=Own.cellg hg2 (xa X) (by have:=hgl1.out;simp[Value.ownBlock];omega);have B2:=Wd ((((Below.refl w.heap.size w).alloc (Nat.le_refl _) X).drew).grown hg2 (by simp) (fun j hj=>Own.ge A1.out j hj))
     clear ho2 hg2 hob2)
  | (refine Own.step_app rfl (.tmp 23) (.tmp 30) 154 rfl underlying154 info_dir v2 (.slice (some ⟨g,ado,ads⟩) (N-(p+1)) (cap-(p+1))) rfl rfl A2.out B2.out.size S3.out hone2.out (by unfold maxLen;omega) (by omega) ?_
     intro v3 w3 ho3 hg3 hob3;obtain⟨a3,c3,rfl⟩:=Own.form ho3;have B3:=Wd (B2.out.grown hg3 B2.out.size (fun k h=>Own.ge A2.out k h));have A3:=Wd ho3;have bx3:=H.out.box.below B3.out hgl1.out;have x3b:=bx3.cell (j:=1) rfl;have f3b:=bx3.fz
     clear ho3 hg3 hob3 bx3))
 all_goals
  have ho3:=A3.out;have e2:=hcut.out.2;rw[hcut.out.1] at ho3;simp only[Nat.zero_add] at ho3 e2;rw[e2] at ho3;rw[e2];obtain⟨q1,q2⟩:=hend.out w3 _ B3.out ho3;obtain⟨ML,hML⟩:∃ ML,(q.take p ++ q.drop (p+1)).length=ML:=⟨_,rfl⟩;rw[hML] at q1 q2;rw[hML];have y0:=q1.box.cell (j:=0) rfl;have hS3:=RS.tree HS.out q2;have hD3:DT base _ rt rg (l.take p ++ l.drop (p+1)):=⟨⟨_,_,q1,((HF.out.take p).app (HF.out.drop (p+1))).keeps q2 (by simp[RT])⟩,hfin.out⟩;have cU3:=Wd (cU.out _ hS3);replace hD3:=Wd hD3;replace q2:=Wd q2;clear q1 hS3 ho3 e2 hML;go_wp2_with fail
  refine cU3.out.mono ?_;rintro e w4 ⟨rfl,hr,hK⟩;go_wp2_with fail
  go_end0
  exact⟨rfl,hD3.out.store hK,hr,(keeps_rt q2.out).trans (keeps_dt hK)⟩
theorem raway_any (n:Int){l:List DD}(w:World)(h:DT base w rt rg l)(hf:IN.Fine I L B k S)(hI:I<=4096)(hL:L<=32768)(hk:k<1000000)(hS:IN.RS base w rg (I:Int) (B:Int) (L:Int) (IN.lst S I)) :
 Calls prog 139 #[.pointer (some ⟨rt,0,none⟩),.int .i64 n] w fun e w'=>e=.returned (.tuple #[])/\DT base w' rt rg (l.eraseIdx (ix l n))/\IN.RS base w' rg (I:Int) (B:Int) (L:Int) (IN.lst (IN.ulS S n) I)/\Keeps base UT w w':=by
 by_cases hn:ix l n<l.length
 ·exact raway_dir n w h hn hf hI hL hk hS
 ·rw[List.eraseIdx_of_length_le (by omega)];exact raway_file n w h hn hf hI hL hk hS
end
end RN
end Go.Proofs.YtfffibepcdlldaaGreat
