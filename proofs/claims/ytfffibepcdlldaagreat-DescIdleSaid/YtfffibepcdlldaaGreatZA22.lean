/- A part. -/
import Derived.Test.YtfffibepcdlldaaGreatZA21
set_option linter.unusedVariables false
set_option linter.unusedSimpArgs false
set_option maxRecDepth 100000
set_option maxHeartbeats 64000000
open Go.Proofs.Tryz

namespace Go.Proofs.YtfffibepcdlldaaGreat
open Go.ChangeShapes Go.WideShapes Go.ChangeAt Go.RowKit Go.Maps
namespace NT
open IN (Keeps)
theorem wpList_takeS {P:Program} {w:World} {ops:Array Oper} {rest:List Oper} {o:Oper} {a:Act} {Q:Exit->Act->World->Prop} (hg:o.guard=none) (x hi:Operand) (t:TypeId) (hop:o.op=Op.slice t x none (some hi) none)
 (ht:P.underlying t=some (.slice (P.elem t))) (hs:(sizeOf (P.elem t)).run P w=.ok 1 w)
 (ao:Option Addr) (n cap:Nat) (l:List ByteArray) (hx:a.eval x=.slice ao n cap) (hb:SS w ao n cap l) (kh:IntKind) (z:Int) (H:Nat) (hh:a.eval hi=.int kh z) (hz:z=(H:Int)) (h2:H<=n) (hn:0<n)
 (hK:SS w ao H cap (l.take H)->wpList P ops Q rest (a.put o.dst (.slice ao H cap)) w) :
 wpList P ops Q (o :: rest) a w:=by
 subst hz;refine wpList_plain hg fun K hK'=>?_;have hcap:=hb.2.1;obtain⟨blk,off,rfl,-⟩:=hb.at_ hn;have hrun:=run_slice_h (P:=P) w t (some ⟨blk,off,none⟩) n cap ht kh (H:Int) (by omega) (by omega);rw[hs] at hrun;simp only[Result.andThen,sliced,Int.toNat_natCast] at hrun;have hrun2:(Instr.sliceAt t (.slice (some ⟨blk,off,none⟩) n cap) none (some (.int kh (H:Int))) none).run P w=.ok (.slice (some ⟨blk,off,none⟩) H cap) w:=by
  rw[run_sliceAt_slice (P:=P) w t _ _ _ _ ht,hrun];have:¬ cap=0:=by omega
  simp[this,Addr.add]
 unfold Oper.wp;simp only[execOp,hop,hx,hh,Option.map_some,Option.map_none,hrun2,Sem.run_bind,Sem.run_pure,Result.andThen,Oper.upon];refine hK' _ _ (hK ⟨by rw[List.length_take,hb.1];omega,by omega,hb.2.2.1,fun h=>(by cases h),fun a' ha j u hu=>hb.2.2.2.2 a' ha j u ?_⟩);unfold scl at hu ⊢;rw[List.map_take,List.getElem?_take] at hu
 split at hu
 ·exact hu
 ·cases hu
def plv (n:Int)(x:Option Nat)(k:ByteArray)(d:Bool):Value:=.agg #[.int .i64 n,IS.ptr x,.string k,.bool d]
def last (l:List ByteArray):ByteArray:=l.getD (l.length-1) ByteArray.empty
def placeC (D:Ds)(l:List ByteArray)(r:Int)(c:Int->Int):Except Int Int:=match place D l r with
 | .error e=>.error e
 | .ok n=>if c n=0 then .ok n else .error (c n)
def pv (A:Int->Option (Nat×Nat))(l:List ByteArray)(d:Bool):Except Int Int->Value
 | .ok n=>plv n (pa A n) (last l) d
 | .error _=>.agg #[.int .i64 0,.pointer none,.string ByteArray.empty,.bool false]
theorem target_any (n:Int)(g m:Nat)(u:Int)(pu:Option Nat)(M:ByteArray->Option (Int×Option Nat))(k:ByteArray)(d:Bool)(hk:NS.Sm k)(w:World)(h:DB w g u pu m M) :
 Calls prog 131 #[.agg #[.int .i64 n,.pointer (some ⟨g,0,none⟩),.string k,.bool d]] w fun e w'=>e=.returned (.tuple #[NS.nv ((M k).getD (0,none)),.bool (M k).isSome])/\Below w.heap.size w w':=by
 have b0:=new2 w (.cells #[.int .i64 n,.pointer (some ⟨g,0,none⟩),.string k,.bool d] 183) (.cells #[.int .i64 0,.pointer none] 84);have cG:=Wd (get_any g m u pu M k hk _ (h.keep b0));obtain⟨r,hr⟩:∃ r,(M k).getD (0,none)=r:=⟨_,rfl⟩;obtain⟨b,hbb⟩:∃ b,(M k).isSome=b:=⟨_,rfl⟩;rw[hr,hbb] at cG;rw[hr,hbb];obtain⟨r1,r2⟩:=r;obtain⟨pp,hpp⟩:=ptr_form r2;simp only[NS.nv,hpp] at cG ⊢;clear h hr hbb hpp;go_enter func131,ntmps131
 go_wp2_with fail
 refine cG.out.mono ?_;rintro e w1 ⟨rfl,b1⟩;have n1:Blk w1 (w.heap.size+1) 84 [.int .i64 0,.pointer none]:=(Blk.new _ _ _ (by simp)).keep b1;have c0:=n1.cell (j:=0) rfl;have c1:=n1.cell (j:=1) rfl;have f1:=n1.fz;have N1:=Wd ((n1.set 0 (.int .i64 r1)).set 1 (.pointer pp));have B2:=Wd (((b0.trans (b1.mono b0.size)).setCell (p:=⟨w.heap.size+1,0,none⟩) (by simp) (.int .i64 r1)).setCell (p:=⟨w.heap.size+1,1,none⟩) (by simp) (.pointer pp));clear b1 n1 cG b0;go_wp2_with fail
 refine bodyPost_ret (res_node results131 _ _ rfl N1.out) rfl ?_;exact⟨rfl,B2.out⟩
theorem res_place {fn:Func}{r t:Tmp}(hres:fn.results=#[.cell r 183,.tmp t])(tmps:Array Value)(w:World){g:Nat}{n p k d:Value}(hr:tmps.getD r undef=.pointer (some ⟨g,0,none⟩))(h:Blk w g 183 [n,p,k,d]) :
 (results fn tmps).run prog w=.ok (.tuple #[.agg #[n,p,k,d],tmps.getD t undef]) w:=by
 have h0:=h.cell (j:=0) rfl;have h1:=h.cell (j:=1) rfl;have h2:=h.cell (j:=2) rfl;have h3:=h.cell (j:=3) rfl;rw[Array.getD_eq_getD_getElem?] at hr;simp[results,hres,go_sem,hr,h0,h1,h2,h3]
theorem blk_set4 {w:World}{g:Nat}{e:TypeId}{a b c d a' b' c' d':Value}(h:Blk w g e [a,b,c,d]):Blk ((((w.setCell ⟨g,0,none⟩ a').setCell ⟨g,1,none⟩ b').setCell ⟨g,2,none⟩ c').setCell ⟨g,3,none⟩ d') g e [a',b',c',d']:=
 (((h.set 0 a').set 1 b').set 2 c').set 3 d'
theorem below4 {w w':World}{B g:Nat}(h:Below B w w')(hg:B<=g)(a b c d:Value):Below B w ((((w'.setCell ⟨g,0,none⟩ a).setCell ⟨g,1,none⟩ b).setCell ⟨g,2,none⟩ c).setCell ⟨g,3,none⟩ d):=
 (((h.setCell (p:=⟨g,0,none⟩) hg a).setCell (p:=⟨g,1,none⟩) hg b).setCell (p:=⟨g,2,none⟩) hg c).setCell (p:=⟨g,3,none⟩) hg d
section
variable {base:Nat}{w w':World}{tg sg mb:Nat}{A:Int->Option (Nat×Nat)}{D:Ds}
theorem place_none (a d:Bool)(r:Int)(t:Value)(ao:Option Addr)(cap:Nat)(k:Fn)(fi lb:Array Value)(w:World) :
 Calls prog 166 #[t,.agg #[.bool a,.slice ao 0 cap,.bool d],.int .i64 r,.func k fi lb] w fun e w'=>e=.returned (.tuple #[.agg #[.int .i64 0,.pointer none,.string ByteArray.empty,.bool false],.int .i64 r])/\Below w.heap.size w w':=by
 go_enter func166,ntmps166
 go_wp2_with fail
 exact bodyPost_ret (res_place results166 _ _ rfl (Blk.new _ _ [.int .i64 0,.pointer none,.string ByteArray.empty,.bool false] (by simp))) rfl ⟨rfl,new2 _ _ _⟩
theorem strs_elem:prog.underlying 144=some (.slice (prog.elem 144)):=by kernel_rfl
theorem strs_size (w:World):(sizeOf (prog.elem 144)).run prog w=.ok 1 w:=by kernel_rfl
theorem SS_last {w:World}{ao:Option Addr}{n cap:Nat}{l:List ByteArray}(h:SS w ao n cap l)(hn:0<n):∃ blk off,ao=some ⟨blk,off,none⟩/\w.cell? ⟨blk,off+(n-1),none⟩=some (.string (last l)):=by
 obtain⟨blk,off,e,hc⟩:=h.at_ hn;refine⟨blk,off,e,?_⟩;have h1:=h.1;rw[hc (n-1) (by omega)];have hlt:n-1<l.length:=by omega
 have e2:last l=l[n-1]:=by
  unfold last;have:l.length-1=n-1:=by omega
  rw[this,List.getD_eq_getElem?_getD,List.getElem?_eq_getElem hlt]
  rfl
 rw[e2]
theorem place_no (a d:Bool)(r:Int)(l:List ByteArray)(ao:Option Addr)(n cap:Nat)(k:Fn)(fi lb:Array Value)(w:World)(h:TM base w tg sg mb A D)(hl:SS w ao n cap l)(hn:0<n)(hs:∀ k∈l,NS.Sm k)(e:Int)(hp:place D l r=.error e) :
 Calls prog 166 #[.pointer (some ⟨tg,0,none⟩),.agg #[.bool a,.slice ao n cap,.bool d],.int .i64 r,.func k fi lb] w fun e' w'=>e'=.returned (.tuple #[.agg #[.int .i64 0,.pointer none,.string ByteArray.empty,.bool false],.int .i64 e])/\Below w.heap.size w w':=by
 have b0:=new2 w (.cells #[.bool a,.slice ao n cap,.bool d] 146) (.cells #[.int .i64 0,.pointer none,.string ⟨#[]⟩,.bool false] 183);have hlim:n<=9223372036854775807:=by have:=hl.2.1;have:=hl.2.2.1;unfold maxLen at *;omega
 have hlen:=hl.1;have hl0:=hl.below b0 (Nat.le_refl _);have HL:=Wd hl0;have cR:=Wd (fun (hl1:SS _ ao (n-1) cap (l.take (n-1)))=>resolve_any (l.take (n-1)) ao (n-1) cap _ (h.keep b0) hl1 (fun k hk=>hs k (List.mem_of_mem_take hk)));have hdl:l.dropLast=l.take (n-1):=by rw[List.dropLast_eq_take,hlen]
 have hpn:=pa_none h;have hne:¬ l=[]:=fun e=>by rw[e] at hlen;simp at hlen;omega
 unfold place at hp;rw[if_neg hne,hdl] at hp;clear h hl hl0 hdl hs
 cases hg:goes D 1 (l.take (n-1)) with
 | error e1=>
   rw[hg] at hp cR;simp only[Except.error.injEq] at hp;subst hp;have hne:(e1 == 0)=false:=by simpa using goes_er hg
   simp only[rv,er,NS.nv,IS.ptr] at cR;clear hg hpn;go_enter func166,ntmps166
   go_wp2_with (with_reducible show wpList _ _ _ _ _ _;(refine wpList_takeS rfl (.tmp 26) (.tmp 27) 144 rfl strs_elem (strs_size _) ao n cap l rfl HL.out .i64 _ (n-1) rfl (by omega) (by omega) hn ?_);intro hl1;have cR1:=Wd (cR.out hl1);clear hl1)
   refine cR1.out.mono ?_;rintro e' w1 ⟨rfl,b1⟩;have n1:Blk (w1.alloc (.cells #[.int .i64 0,.pointer none] 84)) (w.heap.size+1) 183 [.int .i64 0,.pointer none,.string ⟨#[]⟩,.bool false]:=((Blk.new _ _ _ (by simp)).keep b1).alloc _;have c0:=n1.cell (j:=0) rfl;have c1:=n1.cell (j:=1) rfl;have c2:=n1.cell (j:=2) rfl;have c3:=n1.cell (j:=3) rfl;have f1:=n1.fz;have N1:=Wd (blk_set4 n1 (a':=.int .i64 0) (b':=.pointer none) (c':=.string ⟨#[]⟩) (d':=.bool false));have b2:Below w.heap.size w w1:=b0.trans (b1.mono b0.size);have B2:=Wd (below4 (b2.alloc b2.size (.cells #[.int .i64 0,.pointer none] 84)) (g:=w.heap.size+1) (by simp) (.int .i64 0) (.pointer none) (.string ⟨#[]⟩) (.bool false));clear b1 n1 b2 cR cR1 b0;go_wp2_with fail
   exact bodyPost_ret (res_place results166 _ _ rfl N1.out) rfl ⟨rfl,B2.out⟩
 | ok m=>
   rw[hg] at hp cR;simp only at hp
   by_cases hD:D m=none
   ·rw[if_pos hD] at hp;simp only[Except.error.injEq] at hp;subst hp;have cF:=fun w=>isFile_any m (pa A m) w;rw[hpn m,decide_eq_true hD] at cF;obtain⟨pm,hpm⟩:=ptr_form (pa A m);simp only[rv,er,NS.nv,hpm] at cR cF;replace cF:=fun w=>Wd (cF w);clear hg hpn hD hpm;go_enter func166,ntmps166
    go_wp2_with (with_reducible show wpList _ _ _ _ _ _;(refine wpList_takeS rfl (.tmp 26) (.tmp 27) 144 rfl strs_elem (strs_size _) ao n cap l rfl HL.out .i64 _ (n-1) rfl (by omega) (by omega) hn ?_);intro hl1;have cR1:=Wd (cR.out hl1);clear hl1)
    refine cR1.out.mono ?_;rintro e' w1 ⟨rfl,b1⟩;have n1:Blk (w1.alloc (.cells #[.int .i64 m,.pointer pm] 84)) (w.heap.size+1) 183 [.int .i64 0,.pointer none,.string ⟨#[]⟩,.bool false]:=((Blk.new _ _ _ (by simp)).keep b1).alloc _;have b2:Below w.heap.size w w1:=b0.trans (b1.mono b0.size);have B2:=Wd (b2.alloc b2.size (.cells #[.int .i64 m,.pointer pm] 84));have n1:=Wd n1;clear b1 b2 cR cR1 b0;go_wp2_with fail
    refine (cF _).out.mono ?_;rintro e' w2 ⟨rfl,b2⟩;have n2:=n1.out.keep b2;have c0:=n2.cell (j:=0) rfl;have c1:=n2.cell (j:=1) rfl;have c2:=n2.cell (j:=2) rfl;have c3:=n2.cell (j:=3) rfl;have f1:=n2.fz;have N1:=Wd (blk_set4 n2 (a':=.int .i64 0) (b':=.pointer none) (c':=.string ⟨#[]⟩) (d':=.bool false));have B3:=Wd (below4 (B2.out.trans (b2.mono B2.out.size)) (g:=w.heap.size+1) (by simp) (.int .i64 0) (.pointer none) (.string ⟨#[]⟩) (.bool false));clear b2 n2 n1;go_wp2_with fail
    exact bodyPost_ret (res_place results166 _ _ rfl N1.out) rfl ⟨rfl,B3.out⟩
   ·rw[if_neg hD] at hp
    cases hp
theorem place_yes (a d:Bool) (r:Int) (l:List ByteArray) (ao:Option Addr) (n cap:Nat) (k:Nat) (lb:Array Value) (w:World) (h:TM base w tg sg mb A D) (hl:SS w ao n cap l) (hn:0<n) (hs:∀ k∈l,NS.Sm k) (m:Int) (hp:place D l r=.ok m)
 (ek:∀ args w,(callFunc k args).run prog w=.ok (.enter k args) w) (c:Int) (hc:∀ W,Below w.heap.size w W->Calls prog k (#[plv m (pa A m) (last l) d] ++ lb) W fun e W'=>e=.returned (.int .i64 c)/\Below W.heap.size W W') :
 Calls prog 166 #[.pointer (some ⟨tg,0,none⟩),.agg #[.bool a,.slice ao n cap,.bool d],.int .i64 r,.func (.func k) #[] lb] w fun e' w'=>e'=.returned (.tuple #[if c=0 then plv m (pa A m) (last l) d else .agg #[.int .i64 0,.pointer none,.string ByteArray.empty,.bool false],.int .i64 c])/\Below w.heap.size w w':=by
 have b0:=new2 w (.cells #[.bool a,.slice ao n cap,.bool d] 146) (.cells #[.int .i64 0,.pointer none,.string ⟨#[]⟩,.bool false] 183);have hlim:n<=9223372036854775807:=by have:=hl.2.1;have:=hl.2.2.1;unfold maxLen at *;omega
 have hlen:=hl.1;have hl0:=hl.below b0 (Nat.le_refl _);obtain⟨blk,off,rfl,hlast⟩:=SS_last hl0 hn;have HL:=Wd hl0;have cR:=Wd (fun (hl1:SS _ (some ⟨blk,off,none⟩) (n-1) cap (l.take (n-1)))=>resolve_any (l.take (n-1)) (some ⟨blk,off,none⟩) (n-1) cap _ (h.keep b0) hl1 (fun k hk=>hs k (List.mem_of_mem_take hk)));have hdl:l.dropLast=l.take (n-1):=by rw[List.dropLast_eq_take,hlen]
 have hpn:=pa_none h;have hne:¬ l=[]:=fun e=>by rw[e] at hlen;simp at hlen;omega
 unfold place at hp;rw[if_neg hne,hdl] at hp;clear h hl hl0 hdl hs;have hg:goes D 1 (l.take (n-1))=.ok m/\¬ D m=none:=by
  cases hg:goes D 1 (l.take (n-1)) with
  | error e1=>rw[hg] at hp;cases hp
  | ok m'=>
    rw[hg] at hp;simp only at hp
    by_cases hD:D m'=none
    ·rw[if_pos hD] at hp;cases hp
    ·rw[if_neg hD] at hp
     cases hp
     exact⟨rfl,hD⟩
 obtain⟨hg,hD⟩:=hg;rw[hg] at cR;have cF:=fun w=>isFile_any m (pa A m) w;rw[hpn m,decide_eq_false hD] at cF;obtain⟨pm,hpm⟩:=ptr_form (pa A m);obtain⟨z,hz⟩:∃ z,last l=z:=⟨_,rfl⟩;unfold plv at hc ⊢;rw[hz] at hlast hc ⊢;simp only[rv,er,NS.nv,hpm] at cR cF hc ⊢;replace cF:=fun w=>Wd (cF w);replace hc:=Wd hc;replace ek:=Wd ek;have hn1:(n:Int)-1=((n-1:Nat):Int):=by omega
 clear hg hpn hD hpm hp hz;go_enter func166,ntmps166
 go_wp2_with (with_reducible show wpList _ _ _ _ _ _;(refine wpList_takeS rfl (.tmp 26) (.tmp 27) 144 rfl strs_elem (strs_size _) (some ⟨blk,off,none⟩) n cap l rfl HL.out .i64 _ (n-1) rfl (by omega) (by omega) hn ?_);intro hl1;have cR1:=Wd (cR.out hl1);clear hl1)
 refine cR1.out.mono ?_;rintro e' w1 ⟨rfl,b1⟩;have n1:Blk (w1.alloc (.cells #[.int .i64 m,.pointer pm] 84)) (w.heap.size+1) 183 [.int .i64 0,.pointer none,.string ⟨#[]⟩,.bool false]:=((Blk.new _ _ _ (by simp)).keep b1).alloc _;have p1:Blk (w1.alloc (.cells #[.int .i64 m,.pointer pm] 84)) w.heap.size 146 [.bool a,.slice (some ⟨blk,off,none⟩) n cap,.bool d]:=(((Blk.new _ _ _ rfl).alloc _).keep b1).alloc _;have q1:Blk (w1.alloc (.cells #[.int .i64 m,.pointer pm] 84)) w1.heap.size 84 [.int .i64 m,.pointer pm]:=Blk.new _ _ _ rfl;have hlast1:w1.cell? ⟨blk,off+(n-1),none⟩=some (.string z):=by
  rw[b1.cell (World.block_lt_of_cell? _ _ hlast)];exact hlast
 have hlast1a:(w1.alloc (.cells #[.int .i64 m,.pointer pm] 84)).cell? ⟨blk,off+(n-1),none⟩=some (.string z):=by
  rw[((Below.refl w1.heap.size w1).alloc (Nat.le_refl _) _).cell (World.block_lt_of_cell? _ _ hlast1)];exact hlast1
 have b2:Below w.heap.size w w1:=b0.trans (b1.mono b0.size);have B2:=Wd (b2.alloc b2.size (.cells #[.int .i64 m,.pointer pm] 84));have n1:=Wd n1;have p1:=Wd p1;have q1:=Wd q1;have hl2:=Wd hlast1a;clear b1 b2 cR cR1 b0 hlast1 hlast1a hlast;go_wp2_with fail
 refine (cF _).out.mono ?_;rintro e' w2 ⟨rfl,b2⟩;have n2:=n1.out.keep b2;have p2:=p1.out.keep b2;have q2:=q1.out.keep b2;have hl3:w2.cell? ⟨blk,off+(n-1),none⟩=some (.string z):=by
  rw[b2.cell (World.block_lt_of_cell? _ _ hl2.out)];exact hl2.out
 have pc1:=p2.cell (j:=1) rfl;have pc2:=p2.cell (j:=2) rfl;have qc0:=q2.cell (j:=0) rfl;have qc1:=q2.cell (j:=1) rfl;have pc1a:=fun o=>(p2.alloc o).cell (j:=1) rfl;have pc2a:=fun o=>(p2.alloc o).cell (j:=2) rfl;have qc0a:=fun o=>(q2.alloc o).cell (j:=0) rfl;have qc1a:=fun o=>(q2.alloc o).cell (j:=1) rfl;have hl3a:∀ o,(w2.alloc o).cell? ⟨blk,off+(n-1),none⟩=some (.string z):=fun o=>by
  rw[((Below.refl w2.heap.size w2).alloc (Nat.le_refl _) o).cell (World.block_lt_of_cell? _ _ hl3)];exact hl3
 have hb1:n-1<n:=by omega
 have B3:=Wd (B2.out.trans (b2.mono B2.out.size));have n2:=Wd n2;clear b2 n1 p1 q1 p2 q2 hl2 B2;go_wp2_with fail
 go_region
 obtain⟨W,hW⟩:∃ W,(w2.alloc (.cells #[.int .i64 m,.pointer pm,.string z,.bool d] 183)).drew=W:=⟨_,rfl⟩;have n3:Blk W (w.heap.size+1) 183 [.int .i64 0,.pointer none,.string ⟨#[]⟩,.bool false]:=by rw[<-hW];exact n2.out.alloc _
 have q3:Blk W w2.heap.size 183 [.int .i64 m,.pointer pm,.string z,.bool d]:=by rw[<-hW];exact Blk.new w2 _ _ rfl
 have B4:Below w.heap.size w W:=by rw[<-hW];exact ((B3.out).alloc B3.out.size _).drew
 rw[hW];have r0:=q3.cell (j:=0) rfl;have r1:=q3.cell (j:=1) rfl;have r2:=q3.cell (j:=2) rfl;have r3:=q3.cell (j:=3) rfl;have cC:=Wd (hc.out W B4);have n3:=Wd n3;have q3:=Wd q3;have B4:=Wd B4;have hcf:=fun w=>ek.out (#[.agg #[.int .i64 m,.pointer pm,.string z,.bool d]] ++ lb) w;clear hl3 hl3a pc1 pc1a pc2 pc2a qc0 qc0a qc1 qc1a n2 B3 hc ek;go_wp2_with fail
 refine cC.out.mono ?_;rintro e' w4 ⟨rfl,b4⟩;have q4:=q3.out.keep b4;have n4:=n3.out.keep b4;have s0:=q4.cell (j:=0) rfl;have s1:=q4.cell (j:=1) rfl;have s2:=q4.cell (j:=2) rfl;have s3:=q4.cell (j:=3) rfl;have c0:=n4.cell (j:=0) rfl;have c1:=n4.cell (j:=1) rfl;have c2:=n4.cell (j:=2) rfl;have c3:=n4.cell (j:=3) rfl;have f4:=n4.fz
 by_cases hc0:c=0
 ·subst hc0;have N1:=Wd (blk_set4 n4 (a':=.int .i64 m) (b':=.pointer pm) (c':=.string z) (d':=.bool d));have B5:=Wd (below4 (B4.out.trans (b4.mono B4.out.size)) (g:=w.heap.size+1) (by simp) (.int .i64 m) (.pointer pm) (.string z) (.bool d));clear b4 q4 n4 n3 q3 cC;go_wp2_with fail
  exact bodyPost_ret (res_place results166 _ _ rfl N1.out) rfl ⟨rfl,B5.out⟩
 ·have hne2:(c == 0)=false:=by simpa using hc0
  have N1:=Wd (blk_set4 n4 (a':=.int .i64 0) (b':=.pointer none) (c':=.string ⟨#[]⟩) (d':=.bool false));have B5:=Wd (below4 (B4.out.trans (b4.mono B4.out.size)) (g:=w.heap.size+1) (by simp) (.int .i64 0) (.pointer none) (.string ⟨#[]⟩) (.bool false));have hc0:=Wd hc0;clear b4 q4 n4 n3 q3 cC;go_wp2_with fail
  refine bodyPost_ret (res_place results166 _ _ rfl N1.out) rfl ⟨?_,B5.out⟩
  first
   | rfl
   | (rw[if_neg hc0.out];rfl)
theorem place_er {D:Ds}{l:List ByteArray}{r e:Int}(h:place D l r=.error e):e=r∨e≠0:=by
 unfold place at h
 split at h
 ·cases h;exact .inl rfl
 ·split at h
  ·rename_i e' he
   cases h
   exact .inr (goes_er he)
  ·split at h <;> cases h
   exact .inr (by decide)
theorem place_all (a d:Bool) (r:Int) (l:List ByteArray) (ao:Option Addr) (n cap:Nat) (k:Nat) (lb:Array Value) (w:World) (h:TM base w tg sg mb A D) (hl:SS w ao n cap l) (hs:∀ k∈l,NS.Sm k)
 (ek:∀ args w,(callFunc k args).run prog w=.ok (.enter k args) w) (c:Int->Int) (hc:∀ m,place D l r=.ok m->∀ W,Below w.heap.size w W->Calls prog k (#[plv m (pa A m) (last l) d] ++ lb) W fun e W'=>e=.returned (.int .i64 (c m))/\Below W.heap.size W W') :
 Calls prog 166 #[.pointer (some ⟨tg,0,none⟩),.agg #[.bool a,.slice ao n cap,.bool d],.int .i64 r,.func (.func k) #[] lb] w fun e' w'=>e'=.returned (.tuple #[pv A l d (placeC D l r c),.int .i64 (er (placeC D l r c))])/\Below w.heap.size w w':=by
 by_cases hn:n=0
 ·have hl0:l=[]:=List.eq_nil_of_length_eq_zero (by rw[hl.1,hn]);subst hn hl0;exact (place_none a d r _ ao cap (.func k) #[] lb w).mono fun e w' h=>h
 ·cases hp:place D l r with
  | error e=>
    have e1:placeC D l r c=.error e:=by unfold placeC;rw[hp]
    rw[e1];exact place_no a d r l ao n cap (.func k) #[] lb w h hl (by omega) hs e hp
  | ok m=>
    have cc:=place_yes a d r l ao n cap k lb w h hl (by omega) hs m hp ek (c m) (hc m hp)
    by_cases h0:c m=0
    ·have e1:placeC D l r c=.ok m:=by unfold placeC;rw[hp];simp[h0]
     rw[e1];rw[if_pos h0,h0] at cc;exact cc
    ·have e1:placeC D l r c=.error (c m):=by unfold placeC;rw[hp];simp[h0]
     rw[e1];rw[if_neg h0] at cc;exact cc
end
end NT
end Go.Proofs.YtfffibepcdlldaaGreat
