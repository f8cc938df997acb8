/- A part. -/
import Derived.Test.YtfffibepcdlldaaGreatZA23
import Derived.Test.YtfffibepcdlldaaGreatZA08
import Derived.Deep.RegionHeld3
import Derived.Test.YtfffibepcdlldaaGreatZA07
import Derived.LaidEqlPtr
set_option linter.unusedVariables false
set_option linter.unusedSimpArgs false
set_option maxRecDepth 100000
set_option maxHeartbeats 64000000
open Go.Proofs.Tryz

namespace Go.Proofs.YtfffibepcdlldaaGreat
open Go.ChangeShapes Go.WideShapes Go.ChangeAt Go.RowKit Go.Maps
namespace NT
open IN (Keeps)
section
variable {base:Nat}{w w':World}{tg sg mb:Nat}{A:Int->Option (Nat×Nat)}{D:Ds}
theorem Make_parse (s:ByteArray)(hs:s.size<=maxLen)(kind:Int)(w:World)(h:TM base w tg sg mb A D)(hk:kind=1∨kind=2)(he:PM.perr s≠0):Calls prog 108 #[.pointer (some ⟨tg,0,none⟩),.string s,.int .i64 kind] w fun e w'=>e=.returned (.tuple #[.int .i64 0,.int .i64 (PM.perr s)])/\Below w.heap.size w w':=by
 have cN:=Wd (none_some w h);have cP:=fun w=>Wd (parsed (w:=w) hs);generalize PM.perr s=pe at cP he ⊢;have hne:(pe == 0)=false:=by simpa using he
 clear h;rcases hk with rfl|rfl
 all_goals
  go_enter func108,ntmps108
  go_wp2_with fail
  refine cN.out.mono ?_;rintro e w1 ⟨rfl,b1⟩;have B1:=Wd b1;clear b1 cN;go_wp2_with fail
  refine (cP _).out.mono ?_;rintro e w2 ⟨ao,n,cap,rfl,hS,b2⟩;have b2':Below w.heap.size w w2:=B1.out.trans (b2.mono B1.out.size);have B3:=Wd (b2'.alloc b2'.size (.cells #[.bool (PM.pA s),.slice ao n cap,.bool (PM.pD s)] 146));clear b2 b2' hS;go_wp2_with fail
  go_ret2
  exact⟨rfl,B3.out⟩
def vacant (D:Ds)(kind:Int)(s:ByteArray):Except Int Int:=placeC D (PM.pN s) 12 (vac D kind (last (PM.pN s)) (PM.pD s))
theorem Make_vac (s:ByteArray)(hs:s.size<=maxLen)(kind:Int)(w:World)(h:TM base w tg sg mb A D)(hk:kind=1∨kind=2)(hp:PM.perr s=0)(e0:Int)(hv:vacant D kind s=.error e0)(he:e0≠0):Calls prog 108 #[.pointer (some ⟨tg,0,none⟩),.string s,.int .i64 kind] w fun e w'=>e=.returned (.tuple #[.int .i64 0,.int .i64 e0])/\Below w.heap.size w w':=by
 have cN:=Wd (none_some w h);have cP:=fun w=>Wd (parsed (w:=w) hs);rw[hp] at cP;have cV:=fun (ao:Option Addr) (n cap:Nat) (w':World) (hb:Below w.heap.size w w') (hl:SS w' ao n cap (PM.pN s))=>vacant_any (PM.pA s) (PM.pD s) kind (PM.pN s) ao n cap w' (h.keep hb) hl (pN_sm s);unfold vacant at hv;rw[hv] at cV;simp only[pv,er] at cV;have hne:(e0 == 0)=false:=by simpa using he
 generalize PM.pN s=l at cP cV;generalize PM.pD s=d at cP cV;generalize PM.pA s=a at cP cV;replace cV:=Wd cV;clear h hv hp he;rcases hk with rfl|rfl
 all_goals
  go_enter func108,ntmps108
  go_wp2_with fail
  refine cN.out.mono ?_;rintro e w1 ⟨rfl,b1⟩;have B1:=Wd b1;clear b1 cN;go_wp2_with fail
  refine (cP _).out.mono ?_;rintro e w2 ⟨ao,n,cap,rfl,hS,b2⟩;have b2':Below w.heap.size w w2:=B1.out.trans (b2.mono B1.out.size);have b3:=b2'.alloc b2'.size (.cells #[.bool a,.slice ao n cap,.bool d] 146);have p2:Blk (w2.alloc (.cells #[.bool a,.slice ao n cap,.bool d] 146)) w2.heap.size 146 [.bool a,.slice ao n cap,.bool d]:=Blk.new _ _ _ rfl;have c0:=p2.cell (j:=0) rfl;have c1:=p2.cell (j:=1) rfl;have c2:=p2.cell (j:=2) rfl;have cV1:=Wd (cV.out ao n cap _ b3 (hS.alloc _));have B3:=Wd b3;clear b2 b2' hS b3 p2 cV;go_wp2_with fail
  refine cV1.out.mono ?_;rintro e w3 ⟨rfl,b4⟩;have b4':=B3.out.trans (b4.mono B3.out.size);have B4:=Wd (b4'.alloc b4'.size (.cells #[.int .i64 0,.pointer none,.string ⟨#[]⟩,.bool false] 183));clear b4 b4' cV1;go_wp2_with fail
  go_ret2
  exact⟨rfl,B4.out⟩
theorem made_few {M:ByteArray->Option (Int×Option Nat)}{l:List (ByteArray×Int)}{A:Int->Option (Nat×Nat)}(hM:M=nm A l)(hl:l.length<65536):∀ ss,NS.Nums M ss->ss.length<65536:=fun ss h=>by
 have:ss.length<=(l.map (·.1)).length:=NS.nodup_sub ss (l.map (·.1)) h.1 (fun x hx=>by
  have h1:=(h.2 x).1 hx;rw[hM] at h1;unfold nm at h1
  cases e:look x l with
  | none=>rw[e] at h1;exact absurd rfl h1
  | some j=>exact List.mem_map.2 ⟨(x,j),look_mem e,rfl⟩)
 rw[List.length_map] at this
 omega
theorem Make_full (I L B k:Nat)(M:Int->Option Nat)(S:Int->Option IN.Nd)(s:ByteArray)(hs:s.size<=maxLen)(kind:Int)(w:World)(h:TM base w tg sg mb A D)(hS0:IN.PS base w sg mb M I L B k S)(hk:kind=1∨kind=2)(hp:PM.perr s=0)(p:Int)(hv:vacant D kind s=.ok p)(e0:Int)(hr:IN.mkR I S kind=e0)(he:e0≠0) :
 Calls prog 108 #[.pointer (some ⟨tg,0,none⟩),.string s,.int .i64 kind] w fun e w'=>e=.returned (.tuple #[.int .i64 0,.int .i64 e0])/\Below w.heap.size w w':=by
 have cN:=Wd (none_some w h);have cP:=fun w=>Wd (parsed (w:=w) hs);rw[hp] at cP;have cV:=fun (ao:Option Addr) (n cap:Nat) (w':World) (hb:Below w.heap.size w w') (hl:SS w' ao n cap (PM.pN s))=>vacant_any (PM.pA s) (PM.pD s) kind (PM.pN s) ao n cap w' (h.keep hb) hl (pN_sm s);unfold vacant at hv;rw[hv] at cV;simp only[pv,er,plv] at cV;have hne:(e0 == 0)=false:=by simpa using he
 generalize PM.pN s=l at cP cV;generalize PM.pD s=d at cP cV;generalize PM.pA s=a at cP cV;generalize last l=z at cV;obtain⟨pp,hpp⟩:=ptr_form (pa A p);simp only[hpp] at cV;replace cV:=Wd cV;have cM:=Wd (fun (w':World) (hb:Below w.heap.size w w')=>IN.Make_no kind w' (hS0.keep hb) e0 hr he);have t0:=Wd (fun (w':World) (hb:Below w.heap.size w w')=>(h.keep hb).box.cell (j:=0) rfl);clear h hv hp he hS0 hpp;rcases hk with rfl|rfl
 all_goals
  go_enter func108,ntmps108
  go_wp2_with fail
  refine cN.out.mono ?_;rintro e w1 ⟨rfl,b1⟩;have B1:=Wd b1;clear b1 cN;go_wp2_with fail
  refine (cP _).out.mono ?_;rintro e w2 ⟨ao,n,cap,rfl,hS,b2⟩;have b2':Below w.heap.size w w2:=B1.out.trans (b2.mono B1.out.size);have b3:=b2'.alloc b2'.size (.cells #[.bool a,.slice ao n cap,.bool d] 146);have p2:Blk (w2.alloc (.cells #[.bool a,.slice ao n cap,.bool d] 146)) w2.heap.size 146 [.bool a,.slice ao n cap,.bool d]:=Blk.new _ _ _ rfl;have c0:=p2.cell (j:=0) rfl;have c1:=p2.cell (j:=1) rfl;have c2:=p2.cell (j:=2) rfl;have cV1:=Wd (cV.out ao n cap _ b3 (hS.alloc _));have B3:=Wd b3;clear b2 b2' hS b3 p2 cV;go_wp2_with fail
  refine cV1.out.mono ?_;rintro e w3 ⟨rfl,b4⟩;have b4':=B3.out.trans (b4.mono B3.out.size);have b5:=b4'.alloc b4'.size (.cells #[.int .i64 p,.pointer pp,.string z,.bool d] 183);have t1:=t0.out _ b5;have cM1:=Wd (cM.out _ b5);have B4:=Wd b5;clear b4 b4' b5 cV1 cM t0;go_wp2_with fail
  refine cM1.out.mono ?_;rintro e w4 ⟨rfl,b6⟩;have B5:=Wd (B4.out.trans (b6.mono B4.out.size));clear b6 cM1;go_wp2_with fail
  go_ret2
  exact⟨rfl,B5.out⟩
theorem last_le (s:ByteArray):(last (PM.pN s)).size<=281474976710656:=by
 by_cases h:PM.pN s=[]
 ·rw[h];decide
 ·by_cases hp:PM.perr s=0
  ·have h1:=PM.valid_comp (PM.parse_valid hp).1 _ (last_mem h);have h2:=((PM.comp_iff _).1 h1).1.2
   omega
  ·exact absurd (by unfold PM.pN;rw[if_neg hp]) h
def mkD (D:Ds)(p:Int)(k:ByteArray)(n kind:Int):Ds:=fun m=>if m=p then (D p).map fun d=>{ d with l:=put k n d.l } else if m=n/\kind=2 then some ⟨p,[]⟩ else D m
theorem Make_file (I L B k:Nat) (M:Int->Option Nat) (S:Int->Option IN.Nd) (s:ByteArray) (hs:s.size<=maxLen) (w:World) (h:TM base w tg sg mb A D) (hS0:IN.PS base w sg mb M I L B k S) (hp:PM.perr s=0) (p:Int) (hv:vacant D 1 s=.ok p) (dp:Dr) (hdp:D p=some dp) (hfew:dp.l.length<65536)
 (n:Nat) (hr:IN.mkR I S 1=0) (hlow:IN.Low S n) (hn:n<=I) (hL:1<=L) (hfree:D (n:Int)=none) :
 Calls prog 108 #[.pointer (some ⟨tg,0,none⟩),.string s,.int .i64 1] w fun e w'=>e=.returned (.tuple #[.int .i64 (n:Int),.int .i64 0])/\(∃ M',IN.PS base w' sg mb M' I L B k (IN.upd S (n:Int) (some (IN.newNd 1))))/\TM base w' tg sg mb A (mkD D p (last (PM.pN s)) (n:Int) 1)/\Keeps base (FT A mb) w w':=by
 have cN:=Wd (none_some w h);have cP:=fun w=>Wd (parsed (w:=w) hs);rw[hp] at cP;have cV:=fun (ao:Option Addr) (n cap:Nat) (w':World) (hb:Below w.heap.size w w') (hl:SS w' ao n cap (PM.pN s))=>vacant_any (PM.pA s) (PM.pD s) 1 (PM.pN s) ao n cap w' (h.keep hb) hl (pN_sm s);unfold vacant at hv;rw[hv] at cV;have hz:=last_le s;simp only[pv,er,plv] at cV;generalize PM.pN s=l at cP cV hv hz ⊢;generalize PM.pD s=d at cP cV hv;generalize PM.pA s=a at cP cV;generalize last l=z at cV hv hz ⊢;obtain⟨g,m,hA,hpa,hdb⟩:=h.db hdp;rw[hpa] at cV;simp only[IS.ptr] at cV;replace cV:=Wd cV;have cM:=Wd (fun (w':World) (hb:Below w.heap.size w w')=>IN.Make_yes 1 n w' (hS0.keep hb) hr hlow hn hL);have t0:=Wd (fun (w':World) (hb:Below w.heap.size w w')=>(h.keep hb).box.cell (j:=0) rfl);have cW:=fun (pp:Option Addr) (w:World)=>Wd (newNode_file (n:Int) p pp w);have hpn:pa A (n:Int)=none:=by unfold pa;rw[(h.dom _).2 hfree];rfl
 have cU:=Wd (fun (w4:World) (hK:Keeps base (FT A mb) w w4) (hT:TM base w4 tg sg mb A D)=>by
  obtain⟨q1,q2⟩:=hT.dir p g m dp hA hdp;exact put_any base g m dp.up (pa A dp.up) (nm A dp.l) z hz (n:Int) none w4 ⟨q1,q2⟩ (h.ge.2 p g m hA).2.1 (made_few rfl hfew))
 have H:=Wd h;have hDp:Hid (∀ (w5:World),upd D p (some { dp with l:=put z (n:Int) dp.l })=mkD D p z (n:Int) 1):=Wd (fun _=>by
  funext m'
  unfold mkD upd
  by_cases e:m'=p
  ·simp[e,hdp]
  ·simp[e])
 have hA:=Wd hA;have hdp:=Wd hdp;have hpn:=Wd hpn;clear h hv hp hS0 hpa hdb hr hlow hfree;go_enter func108,ntmps108
 go_wp2_with fail
 refine cN.out.mono ?_;rintro e w1 ⟨rfl,b1⟩;have B1:=Wd b1;clear b1 cN;go_wp2_with fail
 refine (cP _).out.mono ?_;rintro e w2 ⟨ao,n0,cap,rfl,hS,b2⟩;have b2':Below w.heap.size w w2:=B1.out.trans (b2.mono B1.out.size);have b3:=b2'.alloc b2'.size (.cells #[.bool a,.slice ao n0 cap,.bool d] 146);have p2:Blk (w2.alloc (.cells #[.bool a,.slice ao n0 cap,.bool d] 146)) w2.heap.size 146 [.bool a,.slice ao n0 cap,.bool d]:=Blk.new _ _ _ rfl;have c0:=p2.cell (j:=0) rfl;have c1:=p2.cell (j:=1) rfl;have c2:=p2.cell (j:=2) rfl;have cV1:=Wd (cV.out ao n0 cap _ b3 (hS.alloc _));have B3:=Wd b3;clear b2 b2' hS b3 p2 cV;go_wp2_with fail
 refine cV1.out.mono ?_;rintro e w3 ⟨rfl,b4⟩;have b4':=B3.out.trans (b4.mono B3.out.size);have b5:=b4'.alloc b4'.size (.cells #[.int .i64 p,.pointer (some ⟨g,0,none⟩),.string z,.bool d] 183);have q3:Blk (w3.alloc (.cells #[.int .i64 p,.pointer (some ⟨g,0,none⟩),.string z,.bool d] 183)) w3.heap.size 183 [.int .i64 p,.pointer (some ⟨g,0,none⟩),.string z,.bool d]:=Blk.new _ _ _ rfl;have q3:=Wd q3;have t1:=t0.out _ b5;have cM1:=Wd (cM.out _ b5);have B4:=Wd b5;have hw3:=Wd b4'.size;clear b4 b4' b5 cV1 cM t0;go_wp2_with fail
 refine cM1.out.mono ?_;rintro e w4 ⟨rfl,hPS,hK⟩;have q4:Blk w4 w3.heap.size 183 [.int .i64 p,.pointer (some ⟨g,0,none⟩),.string z,.bool d]:=hK.block _ _ q3.out (by simp[IN.PT]);have hT4:=(H.out.keep B4.out).store hK;have hK4:Keeps base (FT A mb) w w4:=(Keeps.new B4.out H.out.low).trans (keeps_store hK);have d0:=q4.cell (j:=0) rfl;have d1:=q4.cell (j:=1) rfl;have d2:=q4.cell (j:=2) rfl;have next:∀ w5,Below w4.heap.size w4 w5->(w5.cell? ⟨w3.heap.size,0,none⟩=some (.int .i64 p)/\w5.cell? ⟨w3.heap.size,1,none⟩=some (.pointer (some ⟨g,0,none⟩))/\w5.cell? ⟨w3.heap.size,2,none⟩=some (.string z))/\Hid ((∃ M',IN.PS base w5 sg mb M' I L B k (IN.upd S (n:Int) (some (IN.newNd 1))))/\TM base w5 tg sg mb A D/\Keeps base (FT A mb) w w5/\Blk w5 w3.heap.size 183 [.int .i64 p,.pointer (some ⟨g,0,none⟩),.string z,.bool d]):=fun w5 b5=>by
  have q5:=q4.keep b5;obtain⟨M',hp'⟩:=hPS;exact⟨⟨q5.cell (j:=0) rfl,q5.cell (j:=1) rfl,q5.cell (j:=2) rfl⟩,Wd ⟨⟨M',hp'.keep b5⟩,hT4.keep b5,hK4.trans (Keeps.new b5 hT4.low),q5⟩⟩
 have hm3:Hid (w3.heap.size≠m):=Wd (by
  have h1:=(H.out.dir p g m dp hA.out hdp.out).2.lt;have h2:=B3.out.size;have h3:=hw3.out
  omega)
 replace next:=Wd next;have hPS:=Wd hPS;have hT4:=Wd hT4;have hK4:=Wd hK4;clear cM1 hK q4 q3;go_wp2_with fail
 go_region_held3 (fun w'=>w'.cell? ⟨w3.heap.size,0,none⟩=some (.int .i64 p)/\w'.cell? ⟨w3.heap.size,1,none⟩=some (.pointer (some ⟨g,0,none⟩))/\w'.cell? ⟨w3.heap.size,2,none⟩=some (.string z)) (first|assumption|go_keep)
  (first
   | (go_at_call 32;refine (cW _ _).out.mono ?_;rintro e w5 ⟨rfl,b5⟩;obtain⟨S5,H5⟩:=next.out w5 (bundrew b5);clear b5)
   | (go_at_call 143;refine (cU.out _ H5.out.2.2.1 H5.out.2.1).mono ?_;rintro e w6 ⟨rfl,hM6,hK6⟩;have q6:=(show Blk w6 w3.heap.size 183 [.int .i64 p,.pointer (some ⟨g,0,none⟩),.string z,.bool d] from hK6.block _ _ H5.out.2.2.2 fun h=>hm3.out h.1);have S6:w6.cell? ⟨w3.heap.size,0,none⟩=some (.int .i64 p)/\w6.cell? ⟨w3.heap.size,1,none⟩=some (.pointer (some ⟨g,0,none⟩))/\w6.cell? ⟨w3.heap.size,2,none⟩=some (.string z):=⟨q6.cell (j:=0) rfl,q6.cell (j:=1) rfl,q6.cell (j:=2) rfl⟩))
 all_goals
  have hT6:=H5.out.2.1.turn hA.out hdp.out (l':=put z (n:Int) dp.l) (by rw[nm_put,hpn.out];exact hM6) hK6;have hfin:=Wd (show (∃ M',IN.PS base w6 sg mb M' I L B k (IN.upd S (n:Int) (some (IN.newNd 1))))/\TM base w6 tg sg mb A (mkD D p z (n:Int) 1)/\Keeps base (FT A mb) w w6 from by
   obtain⟨⟨M',h1⟩,h2,h3,h4⟩:=H5.out;have hb:=H.out.ge.2 p g m hA.out;refine⟨⟨M',h1.keeps hK6 (by simp[One]) (by simp[One]) (by simp[One,hb.2.2.symm]) (by simp[One])⟩,?_,h3.trans (keeps_one hA.out hK6)⟩;rw[<-hDp.out w];exact hT6)
  clear hT6 q6 S6 hM6 hK6 H5;go_wp2_with fail
  go_ret2
  exact⟨rfl,hfin.out⟩
end
end NT
namespace NT
open IN (Keeps)
def ulC (M:ByteArray->Option (Int×Option Nat))(k:ByteArray)(d:Bool):Int:=if PM.name k=false then 14 else match M k with
 | none=>11
 | some x=>if x.2≠none then 14 else if d=true then 13 else 0
theorem unlink1_any (n:Int)(g m:Nat)(u:Int)(pu:Option Nat)(M:ByteArray->Option (Int×Option Nat))(k:ByteArray)(d:Bool)(hk:NS.Sm k)(w:World)(h:DB w g u pu m M) :
 Calls prog 130 #[.agg #[.int .i64 n,.pointer (some ⟨g,0,none⟩),.string k,.bool d]] w fun e w'=>e=.returned (.int .i64 (ulC M k d))/\Below w.heap.size w w':=by
 have b0:Below w.heap.size w (w.alloc (.cells #[.int .i64 n,.pointer (some ⟨g,0,none⟩),.string k,.bool d] 183)):=(Below.refl _ w).alloc (Nat.le_refl _) _;have cT:=Wd (target_any n g m u pu M k d hk _ (h.keep b0));have cN:=fun w=>IsName_any k w hk;have hp:Blk (w.alloc (.cells #[.int .i64 n,.pointer (some ⟨g,0,none⟩),.string k,.bool d] 183)) w.heap.size 183 [.int .i64 n,.pointer (some ⟨g,0,none⟩),.string k,.bool d]:=Blk.new _ _ _ rfl;obtain⟨r,hr⟩:∃ r,(M k).getD (0,none)=r:=⟨_,rfl⟩;obtain⟨b,hbb⟩:∃ b,(M k).isSome=b:=⟨_,rfl⟩;obtain⟨y,hy⟩:∃ y,PM.name k=y:=⟨_,rfl⟩;have hv:ulC M k d=if y=false then 14 else if b=false then 11 else if r.2≠none then 14 else if d=true then 13 else 0:=by
  unfold ulC;rw[hy]
  cases e:M k with
  | none=>rw[e] at hbb;subst hbb;simp
  | some x=>rw[e] at hbb hr;subst hbb;subst hr;simp
 rw[hr,hbb] at cT;rw[hy] at cN;replace cN:=fun w=>Wd (cN w);rw[hv];obtain⟨r1,r2⟩:=r;have cF:=fun w=>isFile_any r1 r2 w;obtain⟨pp,hpp⟩:=ptr_form r2;simp only[NS.nv,hpp] at cT cF;have fin:∀ w1:World,Below _ (w.alloc (.cells #[.int .i64 n,.pointer (some ⟨g,0,none⟩),.string k,.bool d] 183)) w1->Blk (w1.alloc (.cells #[.int .i64 r1,.pointer pp] 84)) w.heap.size 183 [.int .i64 n,.pointer (some ⟨g,0,none⟩),.string k,.bool d]/\Blk (w1.alloc (.cells #[.int .i64 r1,.pointer pp] 84)) w1.heap.size 84 [.int .i64 r1,.pointer pp]/\Below w.heap.size w (w1.alloc (.cells #[.int .i64 r1,.pointer pp] 84)):=fun w1 b1=>by
  have b2:Below w.heap.size w w1:=b0.trans (b1.mono b0.size);exact⟨(hp.keep b1).alloc _,Blk.new _ _ _ rfl,b2.alloc b2.size _⟩
 replace fin:=Wd fin;replace cF:=fun w=>Wd (cF w);clear h hr hbb hpp hp b0 hy hv;go_enter func130,ntmps130
 go_wp2_with fail
 refine cT.out.mono ?_;rintro e w1 ⟨rfl,b1⟩;obtain⟨p1,q1,B1⟩:=fin.out w1 b1;have c1:=p1.cell (j:=1) rfl;have c2:=p1.cell (j:=2) rfl;have c3:=p1.cell (j:=3) rfl;have d0:=q1.cell (j:=0) rfl;have d1:=q1.cell (j:=1) rfl;have B1:=Wd B1;have p1:=Wd p1;clear b1 cT fin q1
 cases y with
 | false=>
   go_wp2_with fail
   refine (cN _).out.mono ?_;rintro e w2 ⟨rfl,rfl⟩;go_wp2_with fail
   go_ret
   exact⟨by simp,B1.out⟩
 | true=>
   cases b with
   | false=>
     go_wp2_with fail
     refine (cN _).out.mono ?_;rintro e w2 ⟨rfl,rfl⟩;go_wp2_with fail
     go_ret
     exact⟨by simp,B1.out⟩
   | true=>
     cases r2 with
     | some g2=>
       go_wp2_with fail
       refine (cN _).out.mono ?_;rintro e w2 ⟨rfl,rfl⟩;go_wp2_with fail
       refine (cF _).out.mono ?_;rintro e w3 ⟨rfl,b3⟩;have B3:=Wd (B1.out.trans (b3.mono B1.out.size));clear b3;simp only[Option.isNone_some];go_wp2_with fail
       go_ret
       exact⟨by simp,B3.out⟩
     | none=>
       cases d with
       | true=>
         go_wp2_with fail
         refine (cN _).out.mono ?_;rintro e w2 ⟨rfl,rfl⟩;go_wp2_with fail
         refine (cF _).out.mono ?_;rintro e w3 ⟨rfl,b3⟩;have c4:=(p1.out.keep b3).cell (j:=3) rfl;have B3:=Wd (B1.out.trans (b3.mono B1.out.size));clear b3;simp only[Option.isNone_none];go_wp2_with fail
         go_ret
         exact⟨by simp,B3.out⟩
       | false=>
         go_wp2_with fail
         refine (cN _).out.mono ?_;rintro e w2 ⟨rfl,rfl⟩;go_wp2_with fail
         refine (cF _).out.mono ?_;rintro e w3 ⟨rfl,b3⟩;have c4:=(p1.out.keep b3).cell (j:=3) rfl;have B3:=Wd (B1.out.trans (b3.mono B1.out.size));clear b3;simp only[Option.isNone_none];go_wp2_with fail
         go_ret
         exact⟨by simp,B3.out⟩
end NT
namespace NT
open IN (Keeps)
section
variable {base:Nat}{w w':World}{tg sg mb:Nat}{A:Int->Option (Nat×Nat)}{D:Ds}
theorem cut_parse (s:ByteArray)(hs:s.size<=maxLen)(r:Int)(k:Fn)(fi lb:Array Value)(w:World)(h:TM base w tg sg mb A D)(he:PM.perr s≠0):Calls prog 129 #[.pointer (some ⟨tg,0,none⟩),.string s,.int .i64 r,.func k fi lb] w fun e w'=>e=.returned (.int .i64 (PM.perr s))/\Below w.heap.size w w':=by
 have cN:=Wd (none_some w h);have cP:=fun w=>Wd (parsed (w:=w) hs);generalize PM.perr s=pe at cP he ⊢;have hne:(pe == 0)=false:=by simpa using he
 clear h;go_enter func129,ntmps129
 go_wp2_with fail
 refine cN.out.mono ?_;rintro e w1 ⟨rfl,b1⟩;have B1:=Wd b1;clear b1 cN;go_wp2_with fail
 refine (cP _).out.mono ?_;rintro e w2 ⟨ao,n,cap,rfl,hS,b2⟩;have b2':Below w.heap.size w w2:=B1.out.trans (b2.mono B1.out.size);have B3:=Wd (b2'.alloc b2'.size (.cells #[.bool (PM.pA s),.slice ao n cap,.bool (PM.pD s)] 146));clear b2 b2' hS;go_wp2_with fail
 go_ret
 exact⟨rfl,B3.out⟩
def Chk (w:World)(A:Int->Option (Nat×Nat))(D:Ds)(l:List ByteArray)(d:Bool)(r:Int)(k:Nat)(lb:Array Value)(c:Int->Int):Prop:=
 (∀ args w,(callFunc k args).run prog w=.ok (.enter k args) w)/\∀ m,place D l r=.ok m->∀ W,Below w.heap.size w W->Calls prog k (#[plv m (pa A m) (last l) d] ++ lb) W fun e W'=>e=.returned (.int .i64 (c m))/\Below W.heap.size W W'
theorem Chk.keep {l:List ByteArray}{d:Bool}{r:Int}{k:Nat}{lb:Array Value}{c:Int->Int}(h:Chk w A D l d r k lb c)(hb:Below w.heap.size w w'):Chk w' A D l d r k lb c:=
 ⟨h.1,fun m hp W hW=>h.2 m hp W (hb.trans (hW.mono hb.size))⟩
theorem cut_no (s:ByteArray)(hs:s.size<=maxLen)(r:Int)(k:Nat)(lb:Array Value)(c:Int->Int)(w:World)(h:TM base w tg sg mb A D)(hp:PM.perr s=0)(hC:Chk w A D (PM.pN s) (PM.pD s) r k lb c)(e0:Int)(hv:placeC D (PM.pN s) r c=.error e0)(he:e0≠0) :
 Calls prog 129 #[.pointer (some ⟨tg,0,none⟩),.string s,.int .i64 r,.func (.func k) #[] lb] w fun e w'=>e=.returned (.int .i64 e0)/\Below w.heap.size w w':=by
 have cN:=Wd (none_some w h);have cP:=fun w=>Wd (parsed (w:=w) hs);rw[hp] at cP;have cV:=fun (ao:Option Addr) (n cap:Nat) (w':World) (hb:Below w.heap.size w w') (hl:SS w' ao n cap (PM.pN s))=>place_all (PM.pA s) (PM.pD s) r (PM.pN s) ao n cap k lb w' (h.keep hb) hl (pN_sm s) hC.1 c (hC.keep hb).2;rw[hv] at cV;simp only[pv,er] at cV;have hne:(e0 == 0)=false:=by simpa using he
 clear hC hv;generalize PM.pN s=l at cP cV;generalize PM.pD s=d at cP cV;generalize PM.pA s=a at cP cV;replace cV:=Wd cV;clear h hp he;go_enter func129,ntmps129
 go_wp2_with fail
 refine cN.out.mono ?_;rintro e w1 ⟨rfl,b1⟩;have B1:=Wd b1;clear b1 cN;go_wp2_with fail
 refine (cP _).out.mono ?_;rintro e w2 ⟨ao,n,cap,rfl,hS,b2⟩;have b2':Below w.heap.size w w2:=B1.out.trans (b2.mono B1.out.size);have b3:=b2'.alloc b2'.size (.cells #[.bool a,.slice ao n cap,.bool d] 146);have p2:Blk (w2.alloc (.cells #[.bool a,.slice ao n cap,.bool d] 146)) w2.heap.size 146 [.bool a,.slice ao n cap,.bool d]:=Blk.new _ _ _ rfl;have c0:=p2.cell (j:=0) rfl;have c1:=p2.cell (j:=1) rfl;have c2:=p2.cell (j:=2) rfl;have cV1:=Wd (cV.out ao n cap _ b3 (hS.alloc _));have B3:=Wd b3;clear b2 b2' hS b3 p2 cV;go_wp2_with fail
 refine cV1.out.mono ?_;rintro e w3 ⟨rfl,b4⟩;have b4':=B3.out.trans (b4.mono B3.out.size);have B4:=Wd (b4'.alloc b4'.size (.cells #[.int .i64 0,.pointer none,.string ⟨#[]⟩,.bool false] 183));clear b4 b4' cV1;go_wp2_with fail
 go_ret
 exact⟨rfl,B4.out⟩
theorem cut_yes (I L B q:Nat) (M:Int->Option Nat) (S:Int->Option IN.Nd) (s:ByteArray) (hs:s.size<=maxLen) (r:Int) (k:Nat) (lb:Array Value) (c:Int->Int) (w:World) (h:TM base w tg sg mb A D) (hS0:IN.PS base w sg mb M I L B q S) (hq:q<1000000) (hp:PM.perr s=0) (hC:Chk w A D (PM.pN s) (PM.pD s) r k lb c) (p:Int) (hv:placeC D (PM.pN s) r c=.ok p) (dp:Dr) (hdp:D p=some dp)
 (j:Int) (hj:look (last (PM.pN s)) dp.l=some j) (hj64:IS.I64 j) :
 Calls prog 129 #[.pointer (some ⟨tg,0,none⟩),.string s,.int .i64 r,.func (.func k) #[] lb] w fun e w'=>e=.returned (.int .i64 0)/\(∃ M',IN.PS base w' sg mb M' I L B q (IN.ulS S j))/\TM base w' tg sg mb A (upd D p (some { dp with l:=del (last (PM.pN s)) dp.l }))/\Keeps base (FT A mb) w w':=by
 have cN:=Wd (none_some w h);have cP:=fun w=>Wd (parsed (w:=w) hs);rw[hp] at cP;have cV:=fun (ao:Option Addr) (n cap:Nat) (w':World) (hb:Below w.heap.size w w') (hl:SS w' ao n cap (PM.pN s))=>place_all (PM.pA s) (PM.pD s) r (PM.pN s) ao n cap k lb w' (h.keep hb) hl (pN_sm s) hC.1 c (hC.keep hb).2;rw[hv] at cV;have hz:=last_sm (pN_sm s);simp only[pv,er,plv] at cV;clear hC hv;generalize PM.pN s=l at cP cV hz hj ⊢;generalize PM.pD s=d at cP cV;generalize PM.pA s=a at cP cV;generalize last l=z at cV hz hj ⊢;obtain⟨g,m,hA,hpa,hdb⟩:=h.db hdp;rw[hpa] at cV;simp only[IS.ptr] at cV;replace cV:=Wd cV;have hnm:nm A dp.l z=some (j,pa A j):=by unfold nm;rw[hj];rfl
 have cT:=fun (w':World) (hb:Below w.heap.size w w')=>target_any p g m dp.up (pa A dp.up) (nm A dp.l) z d hz w' (hdb.keep hb);rw[hnm] at cT;obtain⟨pp,hpp⟩:=ptr_form (pa A j);simp only[Option.getD_some,Option.isSome_some,NS.nv,hpp] at cT;replace cT:=Wd cT;have cR:=Wd (fun (w':World) (hb:Below w.heap.size w w')=>remove_any base g m dp.up (pa A dp.up) (nm A dp.l) z hz w' (hdb.keep hb) (h.ge.2 p g m hA).2.1);have cU:=Wd (fun (w':World) (hP:∃ M',IN.PS base w' sg mb M' I L B q S)=>show Calls prog 168 #[.pointer (some ⟨sg,0,none⟩),.int .i64 j] w' (IN.Out base sg mb I L B q w' (IN.ulR S j) (IN.ulS S j)) from by
  obtain⟨M',hP⟩:=hP;exact IN.Unlink_any j w' hP hj64 hq)
 have hm3:m<w.heap.size:=hdb.2.lt;have H:=Wd h;have hPS:=Wd hS0;have hA:=Wd hA;have hdp:=Wd hdp;clear h hp hS0 hpa hdb hnm hpp;go_enter func129,ntmps129
 go_wp2_with fail
 refine cN.out.mono ?_;rintro e w1 ⟨rfl,b1⟩;have B1:=Wd b1;clear b1 cN;go_wp2_with fail
 refine (cP _).out.mono ?_;rintro e w2 ⟨ao,n0,cap,rfl,hS,b2⟩;have b2':Below w.heap.size w w2:=B1.out.trans (b2.mono B1.out.size);have b3:=b2'.alloc b2'.size (.cells #[.bool a,.slice ao n0 cap,.bool d] 146);have p2:Blk (w2.alloc (.cells #[.bool a,.slice ao n0 cap,.bool d] 146)) w2.heap.size 146 [.bool a,.slice ao n0 cap,.bool d]:=Blk.new _ _ _ rfl;have c0:=p2.cell (j:=0) rfl;have c1:=p2.cell (j:=1) rfl;have c2:=p2.cell (j:=2) rfl;have cV1:=Wd (cV.out ao n0 cap _ b3 (hS.alloc _));have B3:=Wd b3;clear b2 b2' hS b3 p2 cV;go_wp2_with fail
 refine cV1.out.mono ?_;rintro e w3 ⟨rfl,b4⟩;have b4':=B3.out.trans (b4.mono B3.out.size);have b5:=b4'.alloc b4'.size (.cells #[.int .i64 p,.pointer (some ⟨g,0,none⟩),.string z,.bool d] 183);have q3:Blk (w3.alloc (.cells #[.int .i64 p,.pointer (some ⟨g,0,none⟩),.string z,.bool d] 183)) w3.heap.size 183 [.int .i64 p,.pointer (some ⟨g,0,none⟩),.string z,.bool d]:=Blk.new _ _ _ rfl;have cT1:=Wd (cT.out _ b5);have d0:=q3.cell (j:=0) rfl;have d1:=q3.cell (j:=1) rfl;have d2:=q3.cell (j:=2) rfl;have d3:=q3.cell (j:=3) rfl;have q3:=Wd q3;have B4:=Wd b5;have hw3:=Wd b4'.size;clear b4 b4' b5 cV1 cT;go_wp2_with fail
 refine cT1.out.mono ?_;rintro e w4 ⟨rfl,b6⟩;have q4:=(q3.out.keep b6).alloc (.cells #[.int .i64 j,.pointer pp] 84);have r4:Blk (w4.alloc (.cells #[.int .i64 j,.pointer pp] 84)) w4.heap.size 84 [.int .i64 j,.pointer pp]:=Blk.new _ _ _ rfl;have b6':=B4.out.trans (b6.mono B4.out.size);have b7:=b6'.alloc b6'.size (.cells #[.int .i64 j,.pointer pp] 84);have cR1:=Wd (cR.out _ b7);have f1:=q4.cell (j:=1) rfl;have f2:=q4.cell (j:=2) rfl;have B5:=Wd b7;have r4:=Wd r4;have hw4:=Wd b6'.size;clear b6 b6' b7 cT1 cR q4 q3;go_wp2_with fail
 refine cR1.out.mono ?_;rintro e w5 ⟨rfl,hM5,hK5⟩;have hT5:=((H.out.keep B5.out).turn hA.out hdp.out (l':=del z dp.l) (by rw[nm_del];exact hM5) hK5);have hKK:Keeps base (FT A mb) w w5:=(Keeps.new B5.out H.out.low).trans (keeps_one hA.out hK5);have hb:=H.out.ge.2 p g m hA.out;have hP5:∃ M',IN.PS base w5 sg mb M' I L B q S:=⟨M,(hPS.out.keep B5.out).keeps hK5 (by simp[One]) (by simp[One]) (by simp[One,hb.2.2.symm]) (by simp[One])⟩;have r5:Blk w5 w4.heap.size 84 [.int .i64 j,.pointer pp]:=hK5.block _ _ r4.out fun h=>by have:=h.1;have:=hw4.out;omega
 have x0:=r5.cell (j:=0) rfl;have t0:=hT5.box.cell (j:=0) rfl;have cU1:=Wd (cU.out w5.drew (by obtain⟨M',h1⟩:=hP5;exact⟨M',h1.pm.drew1,h1.fn,h1.lim⟩));have r5h:=Wd r5;have hKK:=Wd hKK;have hT5:=Wd hT5;clear hM5 hK5 cR1 r5 hP5 cU;go_wp2_with fail
 go_region_held3 (fun w'=>w'.cell? ⟨tg,0,none⟩=some (.pointer (some ⟨sg,0,none⟩))/\w'.cell? ⟨w4.heap.size,0,none⟩=some (.int .i64 j)) (first|assumption|go_keep)
  (first
   | (go_at_call 168;refine cU1.out.mono ?_;rintro e w6 ⟨rfl,hP6,hK6⟩;have hT6:=hT5.out.store (w':=w6) hK6.undrew;have S6:w6.cell? ⟨tg,0,none⟩=some (.pointer (some ⟨sg,0,none⟩))/\w6.cell? ⟨w4.heap.size,0,none⟩=some (.int .i64 j):=⟨hT6.box.cell (j:=0) rfl,(show Blk w6 w4.heap.size 84 [.int .i64 j,.pointer pp] from hK6.undrew.block _ _ r5h.out (by simp[IN.PT])).cell (j:=0) rfl⟩))
 all_goals
  have hfin:=Wd (show (∃ M',IN.PS base w6 sg mb M' I L B q (IN.ulS S j))/\TM base w6 tg sg mb A (upd D p (some { dp with l:=del z dp.l }))/\Keeps base (FT A mb) w w6 from ⟨hP6,hT6,hKK.out.trans (keeps_store hK6.undrew)⟩);clear hT6 S6 hP6 hK6;go_wp2_with fail
  go_ret
  exact⟨rfl,hfin.out⟩
end
end NT
namespace NT
theorem res_paths {fn:Func}{r s t:Tmp}(hres:fn.results=#[.cell r 146,.cell s 146,.tmp t])(tmps:Array Value)(w:World){g g2:Nat}{a b c a2 b2 c2:Value}(hr:tmps.getD r undef=.pointer (some ⟨g,0,none⟩))(hs:tmps.getD s undef=.pointer (some ⟨g2,0,none⟩))(h:Blk w g 146 [a,b,c])(h2:Blk w g2 146 [a2,b2,c2]) :
 (results fn tmps).run prog w=.ok (.tuple #[.agg #[a,b,c],.agg #[a2,b2,c2],tmps.getD t undef]) w:=by
 have d0:=h.cell (j:=0) rfl;have d1:=h.cell (j:=1) rfl;have d2:=h.cell (j:=2) rfl;have e0:=h2.cell (j:=0) rfl;have e1:=h2.cell (j:=1) rfl;have e2:=h2.cell (j:=2) rfl;rw[Array.getD_eq_getD_getElem?] at hr hs;simp[results,hres,go_sem,hr,hs,d0,d1,d2,e0,e1,e2]
theorem blk_set3 {w:World}{g:Nat}{e:TypeId}{a b c a' b' c':Value}(h:Blk w g e [a,b,c]):Blk (((w.setCell ⟨g,0,none⟩ a').setCell ⟨g,1,none⟩ b').setCell ⟨g,2,none⟩ c') g e [a',b',c']:=
 ((h.set 0 a').set 1 b').set 2 c'
theorem blk_far3 {w:World}{g g2:Nat}{e:TypeId}{l:List Value}(h:Blk w g e l)(hg:g≠g2)(a b c:Value):Blk (((w.setCell ⟨g2,0,none⟩ a).setCell ⟨g2,1,none⟩ b).setCell ⟨g2,2,none⟩ c) g e l:=
 ((h.far (p:=⟨g2,0,none⟩) hg a).far (p:=⟨g2,1,none⟩) hg b).far (p:=⟨g2,2,none⟩) hg c
theorem below3 {w w':World}{B g:Nat}(h:Below B w w')(hg:B<=g)(a b c:Value):Below B w (((w'.setCell ⟨g,0,none⟩ a).setCell ⟨g,1,none⟩ b).setCell ⟨g,2,none⟩ c):=
 ((h.setCell (p:=⟨g,0,none⟩) hg a).setCell (p:=⟨g,1,none⟩) hg b).setCell (p:=⟨g,2,none⟩) hg c
theorem blk_drew {w:World}{g:Nat}{e:TypeId}{l:List Value}(h:Blk w g e l):Blk w.drew g e l:=h
theorem ss_drew {w:World}{ao:Option Addr}{n cap:Nat}{l:List ByteArray}(h:SS w ao n cap l):SS w.drew ao n cap l:=h
theorem parsed2 {s:ByteArray}{w:World}(hs:s.size<=maxLen):Calls prog 75 #[.string s] w fun e w'=>∃ ao n cap,e=.returned (.tuple #[.agg #[.bool (PM.pA s),.slice ao n cap,.bool (PM.pD s)],.int .i64 (PM.perr s)])/\(SS w' ao n cap (PM.pN s)/\∀ a,ao=some a->w.heap.size<=a.block)/\Below w.heap.size w w':=
 (Parse_all s w hs).mono fun e w' h=>by
  obtain⟨v,rfl,hown,hb⟩:=h;obtain⟨ao,cap,rfl⟩:=own_form hown;refine⟨ao,_,cap,rfl,⟨SS_own hown,fun a ha=>?_⟩,hb⟩;subst ha;rcases hown.2 with ⟨h',_⟩|⟨g,cap',cur,h',hg,_⟩
  ·simp at h'
  ·simp only[Value.slice.injEq,Option.some.injEq] at h';obtain⟨rfl,-,-⟩:=h';exact hg
theorem SS_far {w:World}{ao:Option Addr}{n cap:Nat}{l:List ByteArray}(h:SS w ao n cap l){p:Addr}(hp:∀ a,ao=some a->a.block≠p.block)(u:Value):SS (w.setCell p u) ao n cap l:=
 ⟨h.1,h.2.1,h.2.2.1,h.2.2.2.1,fun a ha j v hv=>by
  have ea:(a.add j).block=a.block:=by unfold Addr.add;split <;> rfl
  rw[World.cell?_of_block (w:=w) (w':=w.setCell p u) (a:=a.add j) (by rw[ea];exact Below.heap_setCell w p u _ (hp a ha))];exact h.2.2.2.2 a ha j v hv⟩
theorem SS_far3 {w:World}{ao:Option Addr}{n cap:Nat}{l:List ByteArray}{g:Nat}(h:SS w ao n cap l)(hp:∀ a,ao=some a->a.block≠g)(a b c:Value):SS (((w.setCell ⟨g,0,none⟩ a).setCell ⟨g,1,none⟩ b).setCell ⟨g,2,none⟩ c) ao n cap l:=
 SS_far (SS_far (SS_far h (p:=⟨g,0,none⟩) hp a) (p:=⟨g,1,none⟩) hp b) (p:=⟨g,2,none⟩) hp c
theorem parse2_first (s t:ByteArray)(hs:s.size<=maxLen)(w:World)(he:PM.perr s≠0) :
 Calls prog 140 #[.string s,.string t] w fun e w'=>e=.returned (.tuple #[.agg #[.bool false,.slice none 0 0,.bool false],.agg #[.bool false,.slice none 0 0,.bool false],.int .i64 (PM.perr s)])/\Below w.heap.size w w':=by
 have cP:=Wd (parsed (w:=(w.alloc (.cells #[.bool false,.slice none 0 0,.bool false] 146)).alloc (.cells #[.bool false,.slice none 0 0,.bool false] 146)) hs);have b0:=new2 w (.cells #[.bool false,.slice none 0 0,.bool false] 146) (.cells #[.bool false,.slice none 0 0,.bool false] 146);generalize PM.perr s=pe at cP he ⊢;have hne:(pe == 0)=false:=by simpa using he
 go_enter func140,ntmps140
 go_wp2_with fail
 refine cP.out.mono ?_;rintro e w1 ⟨ao,n,cap,rfl,hS,b1⟩;have n1:Blk w1 w.heap.size 146 [.bool false,.slice none 0 0,.bool false]:=((Blk.new _ _ _ rfl).alloc _).keep b1;have n2:Blk w1 (w.heap.size+1) 146 [.bool false,.slice none 0 0,.bool false]:=(Blk.new _ _ _ (by simp)).keep b1;have c10:=n1.cell (j:=0) rfl;have c11:=n1.cell (j:=1) rfl;have c12:=n1.cell (j:=2) rfl;have f1:=n1.fz;have c20:=n2.cell (j:=0) rfl;have c21:=n2.cell (j:=1) rfl;have c22:=n2.cell (j:=2) rfl;have f2:=n2.fz;have hgg:w.heap.size+1≠w.heap.size:=by omega
 have n1a:=blk_set3 n1 (a':=.bool (PM.pA s)) (b':=.slice ao n cap) (c':=.bool (PM.pD s));have n2a:=blk_far3 n2 hgg (.bool (PM.pA s)) (.slice ao n cap) (.bool (PM.pD s));have n1b:=blk_set3 n1a (a':=.bool false) (b':=.slice none 0 0) (c':=.bool false);have n2b:=blk_far3 n2a hgg (.bool false) (.slice none 0 0) (.bool false);have N1:=blk_far3 n1b hgg.symm (.bool false) (.slice none 0 0) (.bool false);have N2:=blk_set3 n2b (a':=.bool false) (b':=.slice none 0 0) (c':=.bool false);have B1:=Wd (below3 (below3 (below3 (b0.trans (b1.mono b0.size)) (Nat.le_refl _) (.bool (PM.pA s)) (.slice ao n cap) (.bool (PM.pD s))) (Nat.le_refl _) (.bool false) (.slice none 0 0) (.bool false)) (Nat.le_succ w.heap.size) (.bool false) (.slice none 0 0) (.bool false));have NN:=Wd (And.intro N1 (And.intro N2 B1));clear n1 n2 n1a n2a n1b n2b b1 b0 hS cP hgg N1 N2 B1;go_wp2_with fail
 refine bodyPost_ret (res_paths results140 _ _ rfl rfl NN.out.1 NN.out.2.1) rfl ?_;exact⟨rfl,NN.out.2.2.out⟩
theorem parse2_second (s t:ByteArray)(hs:s.size<=maxLen)(ht:t.size<=maxLen)(w:World)(h0:PM.perr s=0)(he:PM.perr t≠0) :
 Calls prog 140 #[.string s,.string t] w fun e w'=>e=.returned (.tuple #[.agg #[.bool false,.slice none 0 0,.bool false],.agg #[.bool false,.slice none 0 0,.bool false],.int .i64 (PM.perr t)])/\Below w.heap.size w w':=by
 have cP:=Wd (parsed (w:=(w.alloc (.cells #[.bool false,.slice none 0 0,.bool false] 146)).alloc (.cells #[.bool false,.slice none 0 0,.bool false] 146)) hs);have cQ:=fun w=>Wd (parsed (w:=w) ht);have b0:=new2 w (.cells #[.bool false,.slice none 0 0,.bool false] 146) (.cells #[.bool false,.slice none 0 0,.bool false] 146);rw[h0] at cP;generalize PM.perr t=pe at cQ he ⊢;have hne:(pe == 0)=false:=by simpa using he
 clear h0 he;go_enter func140,ntmps140
 go_wp2_with fail
 refine cP.out.mono ?_;rintro e w1 ⟨ao,n,cap,rfl,hS,b1⟩;have n1:Blk w1 w.heap.size 146 [.bool false,.slice none 0 0,.bool false]:=((Blk.new _ _ _ rfl).alloc _).keep b1;have n2:Blk w1 (w.heap.size+1) 146 [.bool false,.slice none 0 0,.bool false]:=(Blk.new _ _ _ (by simp)).keep b1;have hgg:w.heap.size+1≠w.heap.size:=by omega
 have c10:=n1.cell (j:=0) rfl;have c11:=n1.cell (j:=1) rfl;have c12:=n1.cell (j:=2) rfl;have f1:=n1.fz;have n1a:=Wd (blk_set3 n1 (a':=.bool (PM.pA s)) (b':=.slice ao n cap) (c':=.bool (PM.pD s)));have n2a:=Wd (blk_far3 n2 hgg (.bool (PM.pA s)) (.slice ao n cap) (.bool (PM.pD s)));have B1:=Wd (below3 (b0.trans (b1.mono b0.size)) (Nat.le_refl _) (.bool (PM.pA s)) (.slice ao n cap) (.bool (PM.pD s)));clear n1 n2 b1 b0 hS cP;go_wp2_with fail
 refine (cQ _).out.mono ?_;rintro e w2 ⟨ao2,n2,cap2,rfl,hS2,b2⟩;have m1:=n1a.out.keep b2;have m2:=n2a.out.keep b2;have d10:=m1.cell (j:=0) rfl;have d11:=m1.cell (j:=1) rfl;have d12:=m1.cell (j:=2) rfl;have g1:=m1.fz;have d20:=m2.cell (j:=0) rfl;have d21:=m2.cell (j:=1) rfl;have d22:=m2.cell (j:=2) rfl;have g2:=m2.fz;have N1:=(blk_far3 (blk_set3 (blk_far3 m1 hgg.symm (.bool (PM.pA t)) (.slice ao2 n2 cap2) (.bool (PM.pD t))) (a':=.bool false) (b':=.slice none 0 0) (c':=.bool false)) hgg.symm (.bool false) (.slice none 0 0) (.bool false));have N2:=(blk_set3 (blk_far3 (blk_set3 m2 (a':=.bool (PM.pA t)) (b':=.slice ao2 n2 cap2) (c':=.bool (PM.pD t))) hgg (.bool false) (.slice none 0 0) (.bool false)) (a':=.bool false) (b':=.slice none 0 0) (c':=.bool false));have B2:=Wd (below3 (below3 (below3 (B1.out.trans (b2.mono B1.out.size)) (Nat.le_succ w.heap.size) (.bool (PM.pA t)) (.slice ao2 n2 cap2) (.bool (PM.pD t))) (Nat.le_refl _) (.bool false) (.slice none 0 0) (.bool false)) (Nat.le_succ w.heap.size) (.bool false) (.slice none 0 0) (.bool false));have NN:=Wd (And.intro N1 (And.intro N2 B2));clear m1 m2 b2 hS2 hgg n1a n2a B1 c10 c11 c12 f1 N1 N2 B2;go_wp2_with fail
 refine bodyPost_ret (res_paths results140 _ _ rfl rfl NN.out.1 NN.out.2.1) rfl ?_;exact⟨rfl,NN.out.2.2.out⟩
theorem parse2_yes (s t:ByteArray)(hs:s.size<=maxLen)(ht:t.size<=maxLen)(w:World)(h0:PM.perr s=0)(h1:PM.perr t=0) :
 Calls prog 140 #[.string s,.string t] w fun e w'=>∃ ao n cap ao2 n2 cap2,e=.returned (.tuple #[.agg #[.bool (PM.pA s),.slice ao n cap,.bool (PM.pD s)],.agg #[.bool (PM.pA t),.slice ao2 n2 cap2,.bool (PM.pD t)],.int .i64 0])/\SS w' ao n cap (PM.pN s)/\SS w' ao2 n2 cap2 (PM.pN t)/\Below w.heap.size w w':=by
 have cP:=Wd (parsed2 (w:=(w.alloc (.cells #[.bool false,.slice none 0 0,.bool false] 146)).alloc (.cells #[.bool false,.slice none 0 0,.bool false] 146)) hs);have cQ:=fun w=>Wd (parsed2 (w:=w) ht);have b0:=new2 w (.cells #[.bool false,.slice none 0 0,.bool false] 146) (.cells #[.bool false,.slice none 0 0,.bool false] 146);rw[h0] at cP;rw[h1] at cQ;clear h0 h1;go_enter func140,ntmps140
 go_wp2_with fail
 refine cP.out.mono ?_;rintro e w1 ⟨ao,n,cap,rfl,⟨hS,hSb⟩,b1⟩;have n1:Blk w1 w.heap.size 146 [.bool false,.slice none 0 0,.bool false]:=((Blk.new _ _ _ rfl).alloc _).keep b1;have n2:Blk w1 (w.heap.size+1) 146 [.bool false,.slice none 0 0,.bool false]:=(Blk.new _ _ _ (by simp)).keep b1;have hgg:w.heap.size+1≠w.heap.size:=by omega
 have c10:=n1.cell (j:=0) rfl;have c11:=n1.cell (j:=1) rfl;have c12:=n1.cell (j:=2) rfl;have f1:=n1.fz;have n1a:=Wd (blk_set3 n1 (a':=.bool (PM.pA s)) (b':=.slice ao n cap) (c':=.bool (PM.pD s)));have n2a:=Wd (blk_far3 n2 hgg (.bool (PM.pA s)) (.slice ao n cap) (.bool (PM.pD s)));have B1:=Wd (below3 (b0.trans (b1.mono b0.size)) (Nat.le_refl _) (.bool (PM.pA s)) (.slice ao n cap) (.bool (PM.pD s)));have hSb':∀ a,ao=some a->w.heap.size+2<=a.block:=fun a ha=>by have:=hSb a ha;simp at this;omega
 have hS1:=Wd (And.intro hSb' (SS_far3 hS (g:=w.heap.size) (fun a ha=>by have:=hSb' a ha;omega) (.bool (PM.pA s)) (.slice ao n cap) (.bool (PM.pD s))));have hsz1:=Wd (show w.heap.size+2<=w1.heap.size from by have:=b1.size;simpa using this);clear n1 n2 b1 b0 hS cP hSb hSb';go_wp2_with fail
 refine (cQ _).out.mono ?_;rintro e w2 ⟨ao2,n2,cap2,rfl,⟨hS2,hSb2⟩,b2⟩;have m1:=n1a.out.keep b2;have m2:=n2a.out.keep b2;have d10:=m1.cell (j:=0) rfl;have d11:=m1.cell (j:=1) rfl;have d12:=m1.cell (j:=2) rfl;have g1:=m1.fz;have d20:=m2.cell (j:=0) rfl;have d21:=m2.cell (j:=1) rfl;have d22:=m2.cell (j:=2) rfl;have g2:=m2.fz;have hSb2':∀ a,ao2=some a->w.heap.size+2<=a.block:=fun a ha=>by have h3:=hSb2 a ha;have h4:=hsz1.out;simp at h3;omega
 have hS3:=hS1.out.2.below b2 (Nat.le_refl _);have hS4:(∀ a,ao=some a->w.heap.size+2<=a.block)/\(∀ a,ao2=some a->w.heap.size+2<=a.block)/\SS (((w2.setCell ⟨w.heap.size+1,0,none⟩ (.bool (PM.pA t))).setCell ⟨w.heap.size+1,1,none⟩ (.slice ao2 n2 cap2)).setCell ⟨w.heap.size+1,2,none⟩ (.bool (PM.pD t))) ao n cap (PM.pN s)/\SS (((w2.setCell ⟨w.heap.size+1,0,none⟩ (.bool (PM.pA t))).setCell ⟨w.heap.size+1,1,none⟩ (.slice ao2 n2 cap2)).setCell ⟨w.heap.size+1,2,none⟩ (.bool (PM.pD t))) ao2 n2 cap2 (PM.pN t):=
  ⟨hS1.out.1,hSb2',SS_far3 hS3 (fun a ha=>by have:=hS1.out.1 a ha;omega) _ _ _,SS_far3 hS2 (fun a ha=>by have:=hSb2' a ha;omega) _ _ _⟩
 have hW0:Blk (((w2.setCell ⟨w.heap.size+1,0,none⟩ (.bool (PM.pA t))).setCell ⟨w.heap.size+1,1,none⟩ (.slice ao2 n2 cap2)).setCell ⟨w.heap.size+1,2,none⟩ (.bool (PM.pD t))) w.heap.size 146 [.bool (PM.pA s),.slice ao n cap,.bool (PM.pD s)]:=blk_far3 m1 (by omega) _ _ _;have hW1:Blk (((w2.setCell ⟨w.heap.size+1,0,none⟩ (.bool (PM.pA t))).setCell ⟨w.heap.size+1,1,none⟩ (.slice ao2 n2 cap2)).setCell ⟨w.heap.size+1,2,none⟩ (.bool (PM.pD t))) (w.heap.size+1) 146 [.bool (PM.pA t),.slice ao2 n2 cap2,.bool (PM.pD t)]:=blk_set3 m2;have NN:=Wd (And.intro hW0 (And.intro hW1 (And.intro (below3 (B1.out.trans (b2.mono B1.out.size)) (Nat.le_succ w.heap.size) (.bool (PM.pA t)) (.slice ao2 n2 cap2) (.bool (PM.pD t))) hS4)));clear m1 m2 b2 n1a n2a c10 c11 c12 f1 hW0 hW1 hS2 hS1 hS3 hS4 hSb2 hSb2' hsz1;go_wp2_with fail
 obtain⟨W,hW⟩:∃ W,((w2.setCell ⟨w.heap.size+1,0,none⟩ (.bool (PM.pA t))).setCell ⟨w.heap.size+1,1,none⟩ (.slice ao2 n2 cap2)).setCell ⟨w.heap.size+1,2,none⟩ (.bool (PM.pD t))=W:=⟨_,rfl⟩;rw[hW] at NN ⊢;have k0:=NN.out.1.cell (j:=0) rfl;have k1:=NN.out.1.cell (j:=1) rfl;have k2:=NN.out.1.cell (j:=2) rfl;have kf:=NN.out.1.fz;have l0:=NN.out.2.1.cell (j:=0) rfl;have l1:=NN.out.2.1.cell (j:=1) rfl;have l2:=NN.out.2.1.cell (j:=2) rfl;have lf:=NN.out.2.1.fz;clear d10 d11 d12 d20 d21 d22 g1 g2;go_region
 have hg1:w.heap.size+1≠w.heap.size:=by omega
 have z0:=blk_far3 (blk_set3 NN.out.1 (a':=.bool (PM.pA s)) (b':=.slice ao n cap) (c':=.bool (PM.pD s))) hg1.symm (.bool (PM.pA t)) (.slice ao2 n2 cap2) (.bool (PM.pD t));have z1:=blk_set3 (blk_far3 NN.out.2.1 hg1 (.bool (PM.pA s)) (.slice ao n cap) (.bool (PM.pD s))) (a':=.bool (PM.pA t)) (b':=.slice ao2 n2 cap2) (c':=.bool (PM.pD t));have y0:=(below3 (below3 NN.out.2.2.1 (Nat.le_refl _) (.bool (PM.pA s)) (.slice ao n cap) (.bool (PM.pD s))) (Nat.le_succ w.heap.size) (.bool (PM.pA t)) (.slice ao2 n2 cap2) (.bool (PM.pD t))).drew;have s1:=SS_far3 (SS_far3 NN.out.2.2.2.2.2.1 (g:=w.heap.size) (fun a ha=>by have:=NN.out.2.2.2.1 a ha;omega) (.bool (PM.pA s)) (.slice ao n cap) (.bool (PM.pD s))) (g:=w.heap.size+1) (fun a ha=>by have:=NN.out.2.2.2.1 a ha;omega) (.bool (PM.pA t)) (.slice ao2 n2 cap2) (.bool (PM.pD t));have s2:=SS_far3 (SS_far3 NN.out.2.2.2.2.2.2 (g:=w.heap.size) (fun a ha=>by have:=NN.out.2.2.2.2.1 a ha;omega) (.bool (PM.pA s)) (.slice ao n cap) (.bool (PM.pD s))) (g:=w.heap.size+1) (fun a ha=>by have:=NN.out.2.2.2.2.1 a ha;omega) (.bool (PM.pA t)) (.slice ao2 n2 cap2) (.bool (PM.pD t));obtain⟨V,hV⟩:∃ V,((((((W.setCell ⟨w.heap.size,0,none⟩ (.bool (PM.pA s))).setCell ⟨w.heap.size,1,none⟩ (.slice ao n cap)).setCell ⟨w.heap.size,2,none⟩ (.bool (PM.pD s))).setCell ⟨w.heap.size+1,0,none⟩ (.bool (PM.pA t))).setCell ⟨w.heap.size+1,1,none⟩ (.slice ao2 n2 cap2)).setCell ⟨w.heap.size+1,2,none⟩ (.bool (PM.pD t))).drew=V:=⟨_,rfl⟩;have NF:=Wd (show Blk V w.heap.size 146 [.bool (PM.pA s),.slice ao n cap,.bool (PM.pD s)]/\Blk V (w.heap.size+1) 146 [.bool (PM.pA t),.slice ao2 n2 cap2,.bool (PM.pD t)]/\Below w.heap.size w V/\SS V ao n cap (PM.pN s)/\SS V ao2 n2 cap2 (PM.pN t) from by
  rw[<-hV];exact⟨blk_drew z0,blk_drew z1,y0,ss_drew s1,ss_drew s2⟩)
 rw[hV];clear z0 z1 y0 s1 s2 k0 k1 k2 kf l0 l1 l2 lf NN hW hV;go_wp2_with fail
 refine bodyPost_ret (res_paths results140 _ _ rfl rfl NF.out.1 NF.out.2.1) rfl ?_;exact⟨_,_,_,_,_,_,rfl,NF.out.2.2.2.1,NF.out.2.2.2.2,NF.out.2.2.1⟩
end NT
namespace NT
open IN (Keeps)
def Sub (A A':Int->Option (Nat×Nat))(w:World):Prop:=∀ n g m,A' n=some (g,m)->A n=some (g,m)∨(w.heap.size<=g/\w.heap.size<=m)
theorem Sub.refl (A:Int->Option (Nat×Nat))(w:World):Sub A A w:=fun _ _ _ h=>.inl h
def Did (base tg sg mb I L B q:Nat)(A:Int->Option (Nat×Nat))(w:World)(r:Int)(S':Int->Option IN.Nd)(D':Ds)(e:Ending)(w':World):Prop:=
 e=.returned (.int .i64 r)/\(∃ M',IN.PS base w' sg mb M' I L B q S')/\(∃ A',Sub A A' w/\TM base w' tg sg mb A' D')/\Keeps base (FT A mb) w w'
section
variable {base:Nat}{w w':World}{tg sg mb I L B q:Nat}{A:Int->Option (Nat×Nat)}{D:Ds}{M:Int->Option Nat}{S:Int->Option IN.Nd}
theorem did_same (h:TM base w tg sg mb A D)(hP:IN.PS base w sg mb M I L B q S)(hb:Below w.heap.size w w')(r:Int):Did base tg sg mb I L B q A w r S D (.returned (.int .i64 r)) w':=
 ⟨rfl,⟨M,hP.keep hb⟩,⟨A,Sub.refl A w,h.keep hb⟩,Keeps.new hb h.low⟩
def linkV (D:Ds)(L:Nat)(S:Int->Option IN.Nd)(s t:ByteArray):Int:=if PM.perr s≠0 then PM.perr s else if PM.perr t≠0 then PM.perr t else match find D (PM.pN s) (PM.pD s) with
 | .error e=>e
 | .ok n=>if D n≠none then 27 else match vacant D 1 t with
   | .error e=>e
   | .ok p=>IN.lkR L S n
theorem vacant_er {kind:Int}{s:ByteArray}{e:Int}(h:vacant D kind s=.error e):e≠0:=by
 unfold vacant placeC at h
 split at h
 ·rename_i e' he
  cases h
  rcases place_er he with h|h
  ·rw[h];decide
  ·exact h
 ·split at h
  ·cases h
  ·rename_i hne
   cases h
   exact hne
theorem Link_parse (s t:ByteArray)(hs:s.size<=maxLen)(ht:t.size<=maxLen)(w:World)(h:TM base w tg sg mb A D)(pe:Int)(hpe:pe≠0)(he:(PM.perr s=pe)∨(PM.perr s=0/\PM.perr t=pe)) :
 Calls prog 99 #[.pointer (some ⟨tg,0,none⟩),.string s,.string t] w fun e w'=>e=.returned (.int .i64 pe)/\Below w.heap.size w w':=by
 have cN:=Wd (none_some w h);have cP:Hid (∀ w,Calls prog 140 #[.string s,.string t] w fun e w'=>e=.returned (.tuple #[.agg #[.bool false,.slice none 0 0,.bool false],.agg #[.bool false,.slice none 0 0,.bool false],.int .i64 pe])/\Below w.heap.size w w'):=Wd (fun w=>by
  rcases he with e1|⟨e1,e2⟩
  ·have:=parse2_first s t hs w (by rw[e1];exact hpe);rwa[e1] at this
  ·have:=parse2_second s t hs ht w e1 (by rw[e2];exact hpe);rwa[e2] at this)
 have hne:(pe == 0)=false:=by simpa using hpe
 clear h he hpe;go_enter func99,ntmps99
 go_wp2_with fail
 refine cN.out.mono ?_;rintro e w1 ⟨rfl,b1⟩;have B1:=Wd b1;clear b1 cN;go_wp2_with fail
 refine (cP.out _).mono ?_;rintro e w2 ⟨rfl,b2⟩;have b2':Below w.heap.size w w2:=B1.out.trans (b2.mono B1.out.size);have B3:=Wd ((b2'.alloc b2'.size (.cells #[.bool false,.slice none 0 0,.bool false] 146)).alloc (Nat.le_trans b2'.size (by simp)) (.cells #[.bool false,.slice none 0 0,.bool false] 146));clear b2 b2' B1;go_wp2_with fail
 go_ret
 exact⟨rfl,B3.out⟩
theorem Link_rest (s t:ByteArray)(hs:s.size<=maxLen)(ht:t.size<=maxLen)(w:World)(h:TM base w tg sg mb A D)(hP:IN.PS base w sg mb M I L B q S)(h0:PM.perr s=0)(h1:PM.perr t=0)(hfew:∀ n d,D n=some d->d.l.length<65536)(hnum:∀ n,find D (PM.pN s) (PM.pD s)=.ok n->IS.I64 n) :
 Calls prog 99 #[.pointer (some ⟨tg,0,none⟩),.string s,.string t] w fun e w'=>
  match find D (PM.pN s) (PM.pD s) with
  | .error e0=>e=.returned (.int .i64 e0)/\Below w.heap.size w w'
  | .ok n=>if D n≠none then e=.returned (.int .i64 27)/\Below w.heap.size w w' else match vacant D 1 t with
    | .error e0=>e=.returned (.int .i64 e0)/\Below w.heap.size w w'
    | .ok p=>Did base tg sg mb I L B q A w (IN.lkR L S n) (IN.lkS L S n) (if IN.lkR L S n=0 then (fun m=>if m=p then (D p).map fun d=>{ d with l:=put (last (PM.pN t)) n d.l } else D m) else D) e w':=by
 have cN:=Wd (none_some w h);have cP:=fun w=>Wd (parse2_yes s t hs ht w h0 h1);have cF:=fun (ao:Option Addr) (n cap:Nat) (w':World) (hb:Below w.heap.size w w') (hl:SS w' ao n cap (PM.pN s))=>find_any (PM.pA s) (PM.pD s) (PM.pN s) ao n cap w' (h.keep hb) hl (pN_sm s);have cV:=fun (ao:Option Addr) (n cap:Nat) (w':World) (hb:Below w.heap.size w w') (hl:SS w' ao n cap (PM.pN t))=>vacant_any (PM.pA t) (PM.pD t) 1 (PM.pN t) ao n cap w' (h.keep hb) hl (pN_sm t);have hz:=last_le t;have hve:∀ e0,vacant D 1 t=.error e0->e0≠0:=fun e0=>vacant_er;have hfe:∀ e0,find D (PM.pN s) (PM.pD s)=.error e0->e0≠0:=fun e0=>find_er;have hvd:∀ p,vacant D 1 t=.ok p->D p≠none:=fun p hp=>by
  unfold vacant placeC at hp
  cases e:place D (PM.pN t) 12 with
  | error e1=>rw[e] at hp;cases hp
  | ok m=>
    rw[e] at hp;simp only at hp
    split at hp
    ·cases hp;exact place_dir e
    ·cases hp
 change ∀ (ao:Option Addr) (n cap:Nat) (w':World),Below w.heap.size w w'->SS w' ao n cap (PM.pN t)->Calls prog 141 _ w' fun e' w''=>e'=.returned (.tuple #[pv A (PM.pN t) (PM.pD t) (vacant D 1 t),.int .i64 (er (vacant D 1 t))])/\Below w'.heap.size w' w'' at cV
 generalize vacant D 1 t=V at cV hve hvd ⊢;generalize find D (PM.pN s) (PM.pD s)=R at cF hfe hnum ⊢;generalize PM.pN s=l at cP cF;generalize PM.pD s=d at cP cF;generalize PM.pA s=a at cP cF;generalize PM.pN t=l2 at cP cV hz ⊢;generalize PM.pD t=d2 at cP cV;generalize PM.pA t=a2 at cP cV;have hpn:=pa_none h;have H:=Wd h;have HP:=Wd hP;replace cF:=Wd cF;replace cV:=Wd cV;clear h hP h0 h1 hs ht
 cases R with
 | error e0=>
   have hne:(e0 == 0)=false:=by simpa using hfe e0 rfl
   have cF2:Hid (∀ (ao:Option Addr) (n cap:Nat) (w':World),Below w.heap.size w w'->SS w' ao n cap l->Calls prog 76 #[.pointer (some ⟨tg,0,none⟩),.agg #[.bool a,.slice ao n cap,.bool d]] w' fun e w''=>e=.returned (.tuple #[.agg #[.int .i64 0,.pointer none],.int .i64 e0])/\Below w'.heap.size w' w''):=Wd cF.out;simp only;clear hfe hve hvd hnum cV cF hpn;go_enter func99,ntmps99
   go_wp2_with fail
   refine cN.out.mono ?_;rintro e w1 ⟨rfl,b1⟩;have B1:=Wd b1;clear b1 cN;go_wp2_with fail
   refine (cP _).out.mono ?_;rintro e w2 ⟨ao,n,cap,ao2,n2,cap2,rfl,hS1,hS2,b2⟩;have b2':Below w.heap.size w w2:=B1.out.trans (b2.mono B1.out.size);have b3:=(b2'.alloc b2'.size (.cells #[.bool a,.slice ao n cap,.bool d] 146)).alloc (Nat.le_trans b2'.size (by simp)) (.cells #[.bool a2,.slice ao2 n2 cap2,.bool d2] 146);have p1:Blk ((w2.alloc (.cells #[.bool a,.slice ao n cap,.bool d] 146)).alloc (.cells #[.bool a2,.slice ao2 n2 cap2,.bool d2] 146)) w2.heap.size 146 [.bool a,.slice ao n cap,.bool d]:=(Blk.new _ _ _ rfl).alloc _;have c0:=p1.cell (j:=0) rfl;have c1:=p1.cell (j:=1) rfl;have c2:=p1.cell (j:=2) rfl;have cF3:=Wd (cF2.out ao n cap _ b3 ((hS1.alloc _).alloc _));have B3:=Wd b3;clear b2 b2' b3 B1 p1 hS1 hS2 cF2;go_wp2_with fail
   refine cF3.out.mono ?_;rintro e w3 ⟨rfl,b4⟩;have b5:=B3.out.trans (b4.mono B3.out.size);have B4:=Wd (b5.alloc b5.size (.cells #[.int .i64 0,.pointer none] 84));clear b4 b5 B3 cF3;go_wp2_with fail
   go_ret
   exact⟨rfl,B4.out⟩
 | ok n0=>
   have hn64:=hnum n0 rfl;obtain⟨pp,hpp⟩:=ptr_form (pa A n0);have cF2:Hid (∀ (ao:Option Addr) (n cap:Nat) (w':World),Below w.heap.size w w'->SS w' ao n cap l->Calls prog 76 #[.pointer (some ⟨tg,0,none⟩),.agg #[.bool a,.slice ao n cap,.bool d]] w' fun e w''=>e=.returned (.tuple #[.agg #[.int .i64 n0,.pointer pp],.int .i64 0])/\Below w'.heap.size w' w''):=Wd (fun ao n cap w' hb hl=>by
    have:=cF.out ao n cap w' hb hl;simp only[rv,er,NS.nv,hpp] at this;exact this)
   have cE:=fun w=>isFile_any n0 (pa A n0) w;rw[hpn n0] at cE;simp only[hpp] at cE;have hpa:=Wd hpp;have hpn0:=Wd (hpn n0);clear hfe hnum cF hpn hpp;simp only
   by_cases hD:D n0=none
   ·rw[decide_eq_true hD] at cE;simp only[hD,ne_eq,not_true_eq_false,if_false];replace cE:=fun w=>Wd (cE w)
    cases V with
    | error e0=>
      have hne:(e0 == 0)=false:=by simpa using hve e0 rfl
      have cV2:Hid (∀ (ao:Option Addr) (n cap:Nat) (w':World),Below w.heap.size w w'->SS w' ao n cap l2->Calls prog 141 #[.pointer (some ⟨tg,0,none⟩),.agg #[.bool a2,.slice ao n cap,.bool d2],.int .i64 1] w' fun e' w''=>e'=.returned (.tuple #[.agg #[.int .i64 0,.pointer none,.string ⟨#[]⟩,.bool false],.int .i64 e0])/\Below w'.heap.size w' w''):=Wd cV.out;simp only;clear hve hvd cV;go_enter func99,ntmps99
      go_wp2_with fail
      refine cN.out.mono ?_;rintro e w1 ⟨rfl,b1⟩;have B1:=Wd b1;clear b1 cN;go_wp2_with fail
      refine (cP _).out.mono ?_;rintro e w2 ⟨ao,n,cap,ao2,n2,cap2,rfl,hS1,hS2,b2⟩;have b2':Below w.heap.size w w2:=B1.out.trans (b2.mono B1.out.size);have b3:=(b2'.alloc b2'.size (.cells #[.bool a,.slice ao n cap,.bool d] 146)).alloc (Nat.le_trans b2'.size (by simp)) (.cells #[.bool a2,.slice ao2 n2 cap2,.bool d2] 146);have p1:Blk ((w2.alloc (.cells #[.bool a,.slice ao n cap,.bool d] 146)).alloc (.cells #[.bool a2,.slice ao2 n2 cap2,.bool d2] 146)) w2.heap.size 146 [.bool a,.slice ao n cap,.bool d]:=(Blk.new _ _ _ rfl).alloc _;have p2:Blk ((w2.alloc (.cells #[.bool a,.slice ao n cap,.bool d] 146)).alloc (.cells #[.bool a2,.slice ao2 n2 cap2,.bool d2] 146)) (w2.heap.size+1) 146 [.bool a2,.slice ao2 n2 cap2,.bool d2]:=Blk.new _ _ _ (by simp);have c0:=p1.cell (j:=0) rfl;have c1:=p1.cell (j:=1) rfl;have c2:=p1.cell (j:=2) rfl;have cF3:=Wd (cF2.out ao n cap _ b3 ((hS1.alloc _).alloc _));have B3:=Wd b3;have P2:=Wd (And.intro p2 ((hS2.alloc (.cells #[.bool a,.slice ao n cap,.bool d] 146)).alloc (.cells #[.bool a2,.slice ao2 n2 cap2,.bool d2] 146)));clear b2 b2' b3 B1 p1 p2 hS1 hS2 cF2;go_wp2_with fail
      refine cF3.out.mono ?_;rintro e w3 ⟨rfl,b4⟩;have b5:=B3.out.trans (b4.mono B3.out.size);have r3:Blk (w3.alloc (.cells #[.int .i64 n0,.pointer pp] 84)) w3.heap.size 84 [.int .i64 n0,.pointer pp]:=Blk.new _ _ _ rfl;have P3:=Wd (And.intro ((P2.out.1.keep b4).alloc (.cells #[.int .i64 n0,.pointer pp] 84)) ((P2.out.2.below b4 (Nat.le_refl _)).alloc (.cells #[.int .i64 n0,.pointer pp] 84)));have r30:=r3.cell (j:=0) rfl;have r31:=r3.cell (j:=1) rfl;have B4:=Wd (b5.alloc b5.size (.cells #[.int .i64 n0,.pointer pp] 84));have R3:=Wd r3;clear b4 b5 B3 cF3 P2 r3;go_wp2_with fail
      refine (cE _).out.mono ?_;rintro e w4 ⟨rfl,b6⟩;have B5:=Wd (B4.out.trans (b6.mono B4.out.size));have P4:=Wd (And.intro (P3.out.1.keep b6) (P3.out.2.below b6 (Nat.le_refl _)));have R4:=Wd (R3.out.keep b6);clear b6 B4 P3 R3;have d0:=P4.out.1.cell (j:=0) rfl;have d1:=P4.out.1.cell (j:=1) rfl;have d2':=P4.out.1.cell (j:=2) rfl;have cV3:=Wd (cV2.out ao2 n2 cap2 w4 B5.out P4.out.2);clear cV2 r30 r31;go_wp2_with fail
      refine cV3.out.mono ?_;rintro e w5 ⟨rfl,b7⟩;have b8:=B5.out.trans (b7.mono B5.out.size);have B6:=Wd (b8.alloc b8.size (.cells #[.int .i64 0,.pointer none,.string ⟨#[]⟩,.bool false] 183));clear b7 b8 cV3 B5 P4 R4;go_wp2_with fail
      go_ret
      exact⟨rfl,B6.out⟩
    | ok p=>
      have hDp:=hvd p rfl
      cases hdp:D p with
      | none=>exact absurd hdp hDp
      | some dp=>
      obtain⟨g,m,hA,hpa2,hdb⟩:=H.out.db hdp;have cV2:Hid (∀ (ao:Option Addr) (n cap:Nat) (w':World),Below w.heap.size w w'->SS w' ao n cap l2->Calls prog 141 #[.pointer (some ⟨tg,0,none⟩),.agg #[.bool a2,.slice ao n cap,.bool d2],.int .i64 1] w' fun e' w''=>e'=.returned (.tuple #[.agg #[.int .i64 p,.pointer (some ⟨g,0,none⟩),.string (last l2),.bool d2],.int .i64 0])/\Below w'.heap.size w' w''):=Wd (fun ao n cap w' hb hl=>by
       have:=cV.out ao n cap w' hb hl;simp only[pv,er,plv,hpa2,IS.ptr] at this;exact this)
      simp only;have cL:=Wd (fun (w':World) (hb:Below w.heap.size w w')=>IN.Link_any n0 w' (HP.out.keep hb) hn64);have cU:=Wd (fun (w':World) (hT:TM base w' tg sg mb A D)=>by
       obtain⟨q1,q2⟩:=hT.dir p g m dp hA hdp;exact put_any base g m dp.up (pa A dp.up) (nm A dp.l) (last l2) hz n0 none w' ⟨q1,q2⟩ (H.out.ge.2 p g m hA).2.1 (made_few rfl (hfew p dp hdp)))
      have hpn1:pa A n0=none:=by
       have:=hpn0.out;rw[decide_eq_true hD] at this
       cases e:pa A n0 with
       | none=>rfl
       | some _=>rw[e] at this;cases this
      have hppn:pp=none:=by have:=hpa.out;rw[hpn1] at this;simpa[IS.ptr] using this.symm
      subst hppn;have hA:=Wd hA;have hdp:=Wd hdp;have hpn1:=Wd hpn1;have hmlt:=Wd hdb.2.lt;generalize last l2=z at cV2 cU hz ⊢;obtain⟨Q,hQ⟩:∃ Q,Did base tg sg mb I L B q A w (IN.lkR (L:Int) S n0) (IN.lkS (L:Int) S n0) (if IN.lkR (L:Int) S n0=0 then (fun m=>if m=p then (D p).map fun d=>{ d with l:=put z n0 d.l } else D m) else D)=Q:=⟨_,rfl⟩;rw[hQ];replace hQ:=Wd hQ;clear hve hvd cV hDp hpa2 hdb hpa hpn0;go_enter func99,ntmps99
      go_wp2_with fail
      refine cN.out.mono ?_;rintro e w1 ⟨rfl,b1⟩;have B1:=Wd b1;clear b1 cN;go_wp2_with fail
      refine (cP _).out.mono ?_;rintro e w2 ⟨ao,n,cap,ao2,n2,cap2,rfl,hS1,hS2,b2⟩;have b2':Below w.heap.size w w2:=B1.out.trans (b2.mono B1.out.size);have b3:=(b2'.alloc b2'.size (.cells #[.bool a,.slice ao n cap,.bool d] 146)).alloc (Nat.le_trans b2'.size (by simp)) (.cells #[.bool a2,.slice ao2 n2 cap2,.bool d2] 146);have p1:Blk ((w2.alloc (.cells #[.bool a,.slice ao n cap,.bool d] 146)).alloc (.cells #[.bool a2,.slice ao2 n2 cap2,.bool d2] 146)) w2.heap.size 146 [.bool a,.slice ao n cap,.bool d]:=(Blk.new _ _ _ rfl).alloc _;have p2:Blk ((w2.alloc (.cells #[.bool a,.slice ao n cap,.bool d] 146)).alloc (.cells #[.bool a2,.slice ao2 n2 cap2,.bool d2] 146)) (w2.heap.size+1) 146 [.bool a2,.slice ao2 n2 cap2,.bool d2]:=Blk.new _ _ _ (by simp);have c0:=p1.cell (j:=0) rfl;have c1:=p1.cell (j:=1) rfl;have c2:=p1.cell (j:=2) rfl;have cF3:=Wd (cF2.out ao n cap _ b3 ((hS1.alloc _).alloc _));have B3:=Wd b3;have P2:=Wd (And.intro p2 ((hS2.alloc (.cells #[.bool a,.slice ao n cap,.bool d] 146)).alloc (.cells #[.bool a2,.slice ao2 n2 cap2,.bool d2] 146)));clear b2 b2' b3 B1 p1 p2 hS1 hS2 cF2;go_wp2_with fail
      refine cF3.out.mono ?_;rintro e w3 ⟨rfl,b4⟩;have b5:=B3.out.trans (b4.mono B3.out.size);have r3:Blk (w3.alloc (.cells #[.int .i64 n0,.pointer none] 84)) w3.heap.size 84 [.int .i64 n0,.pointer none]:=Blk.new _ _ _ rfl;have P3:=Wd (And.intro ((P2.out.1.keep b4).alloc (.cells #[.int .i64 n0,.pointer none] 84)) ((P2.out.2.below b4 (Nat.le_refl _)).alloc (.cells #[.int .i64 n0,.pointer none] 84)));have r30:=r3.cell (j:=0) rfl;have r31:=r3.cell (j:=1) rfl;have B4:=Wd (b5.alloc b5.size (.cells #[.int .i64 n0,.pointer none] 84));have R3:=Wd r3;clear b4 b5 B3 cF3 P2 r3;go_wp2_with fail
      refine (cE _).out.mono ?_;rintro e w4 ⟨rfl,b6⟩;have B5:=Wd (B4.out.trans (b6.mono B4.out.size));have P4:=Wd (And.intro (P3.out.1.keep b6) (P3.out.2.below b6 (Nat.le_refl _)));have R4:=Wd (R3.out.keep b6);clear b6 B4 P3 R3;have d0:=P4.out.1.cell (j:=0) rfl;have d1:=P4.out.1.cell (j:=1) rfl;have d2':=P4.out.1.cell (j:=2) rfl;have cV3:=Wd (cV2.out ao2 n2 cap2 w4 B5.out P4.out.2);clear cV2 r30 r31;go_wp2_with fail
      refine cV3.out.mono ?_;rintro e w5 ⟨rfl,b7⟩;have b8:=B5.out.trans (b7.mono B5.out.size);have b9:=b8.alloc b8.size (.cells #[.int .i64 p,.pointer (some ⟨g,0,none⟩),.string z,.bool d2] 183);have q5:Blk (w5.alloc (.cells #[.int .i64 p,.pointer (some ⟨g,0,none⟩),.string z,.bool d2] 183)) w5.heap.size 183 [.int .i64 p,.pointer (some ⟨g,0,none⟩),.string z,.bool d2]:=Blk.new _ _ _ rfl;have r5:=(R4.out.keep b7).alloc (.cells #[.int .i64 p,.pointer (some ⟨g,0,none⟩),.string z,.bool d2] 183);have t0:=(H.out.keep b9).box.cell (j:=0) rfl;have x0:=r5.cell (j:=0) rfl;have cL1:=cL.out _ b9.drew;have hsz5:=Wd b8.size;have Q5:=Wd (And.intro q5 (And.intro r5 b9));replace cL1:=Wd cL1;clear b7 b8 b9 q5 r5 cV3 B5 P4 R4 d0 d1 d2';go_wp2_with fail
      go_region_held3 (fun w'=>w'.cell? ⟨tg,0,none⟩=some (.pointer (some ⟨sg,0,none⟩))/\w'.cell? ⟨w3.heap.size,0,none⟩=some (.int .i64 n0)) (first|assumption|go_keep)
       (first
        | (go_at_call 142;refine cL1.out.mono ?_;rintro e w6 ⟨rfl,hP6,hK6⟩;have hT6:=((H.out.keep Q5.out.2.2).store (w':=w6) hK6.undrew);have r6:Blk w6 w3.heap.size 84 [.int .i64 n0,.pointer none]:=hK6.undrew.block _ _ Q5.out.2.1 (by simp[IN.PT]);have S6:w6.cell? ⟨tg,0,none⟩=some (.pointer (some ⟨sg,0,none⟩))/\w6.cell? ⟨w3.heap.size,0,none⟩=some (.int .i64 n0):=⟨hT6.box.cell (j:=0) rfl,r6.cell (j:=0) rfl⟩))
      all_goals
       have q6:Blk w6 w5.heap.size 183 [.int .i64 p,.pointer (some ⟨g,0,none⟩),.string z,.bool d2]:=hK6.undrew.block _ _ Q5.out.1 (by simp[IN.PT]);have hKK:Keeps base (FT A mb) w w6:=(Keeps.new Q5.out.2.2 H.out.low).trans (keeps_store hK6.undrew);have hfa:=Wd (And.intro hP6 (And.intro hT6 hKK));have cU1:=Wd (cU.out w6 hT6);have y1:=q6.cell (j:=1) rfl;have y2:=q6.cell (j:=2) rfl;have z0:=r6.cell (j:=0) rfl;have z1:=r6.cell (j:=1) rfl;clear S6 hP6 hT6 hKK hK6 cL1 Q5 q6 r6 cU t0 x0
       by_cases h0:IN.lkR (L:Int) S n0=0
       ·rw[h0];have hlk0:=Wd h0;clear h0;go_wp2_with fail
        refine cU1.out.mono ?_;rintro e w7 ⟨rfl,hM7,hK7⟩;have hT7:=hfa.out.2.1.turn hA.out hdp.out (l':=put z n0 dp.l) (by rw[nm_put,hpn1.out];exact hM7) hK7;have hfin:=Wd (show Q (.returned (.int .i64 0)) w7 from by
         rw[<-hQ.out];obtain⟨⟨M',h1⟩,h2,h3⟩:=hfa.out;have hb:=H.out.ge.2 p g m hA.out;refine⟨by rw[hlk0.out],⟨M',h1.keeps hK7 (by simp[One]) (by simp[One]) (by simp[One,hb.2.2.symm]) (by simp[One])⟩,⟨A,Sub.refl A w,?_⟩,h3.trans (keeps_one hA.out hK7)⟩;rw[if_pos hlk0.out,show (fun m=>if m=p then (D p).map fun d=>{ d with l:=put z n0 d.l } else D m)=upd D p (some { dp with l:=put z n0 dp.l }) from by
          funext m'
          unfold upd;rw[hdp.out]
          rfl]
         exact hT7)
        clear hT7 hM7 hK7 hfa cU1;go_wp2_with fail
        exact hfin.out
       ·have hne:(IN.lkR (L:Int) S n0 == 0)=false:=by simpa using h0
        have hfin:=Wd (show Q (.returned (.int .i64 (IN.lkR (L:Int) S n0))) w6 from by
         rw[<-hQ.out];rw[if_neg h0];exact⟨rfl,hfa.out.1,⟨A,Sub.refl A w,hfa.out.2.1⟩,hfa.out.2.2⟩)
        clear hfa cU1 h0;go_wp2_with fail
        exact hfin.out
   ·rw[decide_eq_false hD] at cE;simp only[ne_eq,hD,not_false_eq_true,if_true];replace cE:=fun w=>Wd (cE w);clear hve hvd cV;go_enter func99,ntmps99
    go_wp2_with fail
    refine cN.out.mono ?_;rintro e w1 ⟨rfl,b1⟩;have B1:=Wd b1;clear b1 cN;go_wp2_with fail
    refine (cP _).out.mono ?_;rintro e w2 ⟨ao,n,cap,ao2,n2,cap2,rfl,hS1,hS2,b2⟩;have b2':Below w.heap.size w w2:=B1.out.trans (b2.mono B1.out.size);have b3:=(b2'.alloc b2'.size (.cells #[.bool a,.slice ao n cap,.bool d] 146)).alloc (Nat.le_trans b2'.size (by simp)) (.cells #[.bool a2,.slice ao2 n2 cap2,.bool d2] 146);have p1:Blk ((w2.alloc (.cells #[.bool a,.slice ao n cap,.bool d] 146)).alloc (.cells #[.bool a2,.slice ao2 n2 cap2,.bool d2] 146)) w2.heap.size 146 [.bool a,.slice ao n cap,.bool d]:=(Blk.new _ _ _ rfl).alloc _;have p2:Blk ((w2.alloc (.cells #[.bool a,.slice ao n cap,.bool d] 146)).alloc (.cells #[.bool a2,.slice ao2 n2 cap2,.bool d2] 146)) (w2.heap.size+1) 146 [.bool a2,.slice ao2 n2 cap2,.bool d2]:=Blk.new _ _ _ (by simp);have c0:=p1.cell (j:=0) rfl;have c1:=p1.cell (j:=1) rfl;have c2:=p1.cell (j:=2) rfl;have cF3:=Wd (cF2.out ao n cap _ b3 ((hS1.alloc _).alloc _));have B3:=Wd b3;have P2:=Wd (And.intro p2 ((hS2.alloc (.cells #[.bool a,.slice ao n cap,.bool d] 146)).alloc (.cells #[.bool a2,.slice ao2 n2 cap2,.bool d2] 146)));clear b2 b2' b3 B1 p1 p2 hS1 hS2 cF2;go_wp2_with fail
    refine cF3.out.mono ?_;rintro e w3 ⟨rfl,b4⟩;have b5:=B3.out.trans (b4.mono B3.out.size);have r3:Blk (w3.alloc (.cells #[.int .i64 n0,.pointer pp] 84)) w3.heap.size 84 [.int .i64 n0,.pointer pp]:=Blk.new _ _ _ rfl;have P3:=Wd (And.intro ((P2.out.1.keep b4).alloc (.cells #[.int .i64 n0,.pointer pp] 84)) ((P2.out.2.below b4 (Nat.le_refl _)).alloc (.cells #[.int .i64 n0,.pointer pp] 84)));have r30:=r3.cell (j:=0) rfl;have r31:=r3.cell (j:=1) rfl;have B4:=Wd (b5.alloc b5.size (.cells #[.int .i64 n0,.pointer pp] 84));have R3:=Wd r3;clear b4 b5 B3 cF3 P2 r3;go_wp2_with fail
    refine (cE _).out.mono ?_;rintro e w4 ⟨rfl,b6⟩;have B5:=Wd (B4.out.trans (b6.mono B4.out.size));have P4:=Wd (And.intro (P3.out.1.keep b6) (P3.out.2.below b6 (Nat.le_refl _)));have R4:=Wd (R3.out.keep b6);clear b6 B4 P3 R3;go_wp2_with fail
    go_ret
    exact⟨rfl,B5.out⟩
end
end NT
namespace NT
open IN (Keeps)
end NT
namespace NT
open IN (Keeps)
def Reach (D:Ds):Nat->Int->Prop
 | 0,d=>d=1
 | h+1,d=>d≠1/\∃ x,D d=some x/\Reach D h x.up
def anc (D:Ds):Nat->Int->List Int
 | 0,d=>[d]
 | h+1,d=>d :: (match D d with
   | none=>[]
   | some x=>anc D h x.up)
theorem reach_one {D:Ds}{d:Int}:∀ {h h':Nat},Reach D h d->Reach D h' d->h=h'
 | 0,0,_,_=>rfl
 | 0,h'+1,a,b=>absurd a b.1
 | h+1,0,a,b=>absurd b a.1
 | h+1,h'+1,a,b=>by
   obtain⟨_,x,hx,a⟩:=a;obtain⟨_,y,hy,b⟩:=b;rw[hx] at hy
   cases hy
   rw[reach_one a b]
section
variable {base:Nat}{w w':World}{tg sg mb:Nat}{A:Int->Option (Nat×Nat)}{D:Ds}
end
end NT
end Go.Proofs.YtfffibepcdlldaaGreat
