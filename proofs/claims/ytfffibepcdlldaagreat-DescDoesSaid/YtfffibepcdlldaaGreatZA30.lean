/- A new tree of the document's, over a new store of its. -/
import Derived.Test.YtfffibepcdlldaaGreatZA29
import Derived.Test.YtfffibepcdlldaaGreatZA27
import Derived.Deep.Slices
import Derived.Test.YtfffibepcdlldaaGreatZA26
import Derived.Deep.RegionHeld3
import Derived.OrdersHeld
set_option linter.unusedVariables false
set_option linter.unusedSimpArgs false
set_option maxRecDepth 100000
set_option maxHeartbeats 64000000
open Go.Proofs.Tryz

namespace Go.Proofs.YtfffibepcdlldaaGreat
open Go.ChangeShapes Go.WideShapes Go.ChangeAt Go.RowKit
namespace RN
open IN (Keeps)
open NT (Dr Ds er nu findR)
section
variable {base rt rg I B L c k:Nat}{S:Int->Option IN.Nd}{D:Ds}{κ:Int->Int}{w w':World}
theorem pl_err {D:Ds}{ns:List ByteArray}(hne:ns≠[])(h:(plA D ns).2≠0):plA D ns=((0,⟨#[]⟩),(plA D ns).2):=by
 unfold plA at *
 cases hg:NT.goes D 1 ns.dropLast with
 | error e=>rfl
 | ok n=>
   rw[hg] at h;simp only at h ⊢
   by_cases hD:D n=none
   ·rw[if_pos hD]
   ·rw[if_neg hD] at h;exact absurd rfl h
theorem pl_place {D:Ds}{ns:List ByteArray}(hne:ns≠[])(h:(plA D ns).2≠0)(r:Int):NT.place D ns r=.error (plA D ns).2:=by
 unfold plA NT.place at *;rw[if_neg hne]
 cases hg:NT.goes D 1 ns.dropLast with
 | error e=>rfl
 | ok n=>
   rw[hg] at h;simp only at h ⊢
   by_cases hD:D n=none
   ·rw[if_pos hD,if_pos hD]
   ·rw[if_neg hD] at h;exact absurd rfl h
theorem rUnlink_A (s:ByteArray)(hs:s.size<=maxLen)(w:World)(h0:PM.perr s≠0) :
 Calls prog 98 #[.pointer (some ⟨rt,0,none⟩),.string s] w fun e w'=>e=.returned (.int .i64 (PM.perr s))/\Below w.heap.size w w':=by
 have cP:=fun w=>Wd (rparsed (w:=w) hs);generalize PM.perr s=pe at *;have hne:(pe != 0)=true:=by simpa using h0
 replace h0:=Wd h0;generalize PM.pN s=n1 at *;generalize PM.pD s=d1 at *;generalize PM.pA s=a1 at *;go_enter func98,ntmps98
 go_wp2_with fail
 refine (cP _).out.mono ?_;rintro e w1 ⟨ao1,N1,cap1,rfl,hS,b⟩;have bb:=b.alloc b.size (.cells #[.bool a1,.slice ao1 N1 cap1,.bool d1] 146);have P11:Hid (Blk (w1.alloc (.cells #[.bool a1,.slice ao1 N1 cap1,.bool d1] 146)) w1.heap.size 146 [.bool a1,.slice ao1 N1 cap1,.bool d1]):=Wd (Blk.new _ _ _ rfl);have T11:Hid (SS (w1.alloc (.cells #[.bool a1,.slice ao1 N1 cap1,.bool d1] 146)) ao1 N1 cap1 n1):=Wd (hS.alloc _);have L1:=Wd hS.1;have B1:=Wd (bb);clear b bb hS;go_wp2_with fail
 go_ret
 exact⟨rfl,B1.out⟩
theorem rUnlink_B (s:ByteArray)(hs:s.size<=maxLen)(w:World)(h0:PM.perr s=0)(hnil:PM.pN s=[]) :
 Calls prog 98 #[.pointer (some ⟨rt,0,none⟩),.string s] w fun e w'=>e=.returned (.int .i64 14)/\Below w.heap.size w w':=by
 have cP:=fun w=>Wd (rparsed (w:=w) hs);rw[h0] at cP;rw[hnil] at cP;clear h0 hnil;generalize PM.pD s=d1 at *;generalize PM.pA s=a1 at *;obtain⟨n1,hn1⟩:∃ n1:List ByteArray,n1=[]:=⟨_,rfl⟩;rw[<-hn1] at cP;replace hn1:=Wd hn1;go_enter func98,ntmps98
 go_wp2_with fail
 refine (cP _).out.mono ?_;rintro e w1 ⟨ao1,N1,cap1,rfl,hS,b⟩;have bb:=b.alloc b.size (.cells #[.bool a1,.slice ao1 N1 cap1,.bool d1] 146);have P11:Hid (Blk (w1.alloc (.cells #[.bool a1,.slice ao1 N1 cap1,.bool d1] 146)) w1.heap.size 146 [.bool a1,.slice ao1 N1 cap1,.bool d1]):=Wd (Blk.new _ _ _ rfl);have T11:Hid (SS (w1.alloc (.cells #[.bool a1,.slice ao1 N1 cap1,.bool d1] 146)) ao1 N1 cap1 n1):=Wd (hS.alloc _);have L1:=Wd hS.1;have B1:=Wd (bb);clear b bb hS;obtain rfl:N1=0:=by have:=L1.out;rw[hn1.out] at this;simpa using this.symm
 go_wp2_with fail
 go_ret
 exact⟨rfl,B1.out⟩
theorem rUnlink_C (s:ByteArray)(hs:s.size<=maxLen)(w:World)(h:RW base rt rg I B L c S D (kap D) w)(h0:PM.perr s=0)(hnn:PM.pN s≠[])(r:Int)(hE:(plA D (PM.pN s)).2=r)(hr0:r≠0) :
 Calls prog 98 #[.pointer (some ⟨rt,0,none⟩),.string s] w fun e w'=>e=.returned (.int .i64 r)/\Below w.heap.size w w':=by
 have cP:=fun w=>Wd (rparsed (w:=w) hs);rw[h0] at cP;have hll:=Wd (And.intro (List.length_pos_iff.2 hnn) (pN_len s));have cL:=Wd (fun (ao:Option Addr) (n cap:Nat) (W:World) (hb:Below w.heap.size w W) (hl:SS W ao n cap (PM.pN s)) (h0:0<n) (hN:n<=100000)=>place_d (PM.pA s) (PM.pD s) (PM.pN s) ao n cap W (h.ex.keep hb) hl h0 hN);have hpl:=pl_err hnn (by rw[hE];exact hr0);rw[hE] at hpl;simp only[hpl] at cL;have hne:(r != 0)=true:=by simpa using hr0
 replace hr0:=Wd hr0;clear h h0 hnn hE hpl;generalize PM.pN s=n1 at *;generalize PM.pD s=d1 at *;generalize PM.pA s=a1 at *;go_enter func98,ntmps98
 go_wp2_with fail
 refine (cP _).out.mono ?_;rintro e w1 ⟨ao1,N1,cap1,rfl,hS,b⟩;have bb:=b.alloc b.size (.cells #[.bool a1,.slice ao1 N1 cap1,.bool d1] 146);have P11:Hid (Blk (w1.alloc (.cells #[.bool a1,.slice ao1 N1 cap1,.bool d1] 146)) w1.heap.size 146 [.bool a1,.slice ao1 N1 cap1,.bool d1]):=Wd (Blk.new _ _ _ rfl);have T11:Hid (SS (w1.alloc (.cells #[.bool a1,.slice ao1 N1 cap1,.bool d1] 146)) ao1 N1 cap1 n1):=Wd (hS.alloc _);have L1:=Wd hS.1;have B1:=Wd (bb);clear b bb hS;have hN0:((N1:Int) == 0)=false:=by have:=L1.out;have:=hll.out.1;simp;omega
 have hN1:¬ (N1:Int)=0:=by have:=L1.out;have:=hll.out.1;omega
 have hN2:0<N1/\N1<=100000:=by have:=L1.out;have:=hll.out;omega
 have e10:=P11.out.cell (j:=0) rfl;have e11:=P11.out.cell (j:=1) rfl;have e12:=P11.out.cell (j:=2) rfl;go_wp2_with fail
 refine (cL.out ao1 N1 cap1 _ B1.out T11.out hN2.1 hN2.2).mono ?_;rintro e w2 ⟨rfl,b⟩;have P12:=Wd (P11.out.keep b);have T12:=Wd (T11.out.below b (Nat.le_refl _));clear P11 T11;have B2:=Wd (B1.out.trans (b.mono B1.out.size));clear b;clear e10 e11 e12;go_wp2_with fail
 go_ret
 exact⟨rfl,B2.out⟩
theorem rUnlink_D (s:ByteArray)(hs:s.size<=maxLen)(w:World)(h:RW base rt rg I B L c S D (kap D) w)(h0:PM.perr s=0)(hnn:PM.pN s≠[])(p:Int)(dp:Dr)(hdp:D p=some dp)(z:ByteArray)(hpl:plA D (PM.pN s)=((p,z),0))(hz:z=PM.dot∨z=PM.dots) :
 Calls prog 98 #[.pointer (some ⟨rt,0,none⟩),.string s] w fun e w'=>e=.returned (.int .i64 14)/\Below w.heap.size w w':=by
 have cP:=fun w=>Wd (rparsed (w:=w) hs);rw[h0] at cP;have hll:=Wd (And.intro (List.length_pos_iff.2 hnn) (pN_len s));have cL:=Wd (fun (ao:Option Addr) (n cap:Nat) (W:World) (hb:Below w.heap.size w W) (hl:SS W ao n cap (PM.pN s)) (h0:0<n) (hN:n<=100000)=>place_d (PM.pA s) (PM.pD s) (PM.pN s) ao n cap W (h.ex.keep hb) hl h0 hN);simp only[hpl] at cL;have cT:=Wd (fun W=>rdots_any z W);simp only[decide_eq_true hz] at cT;clear h h0 hnn hpl hdp hz ;generalize PM.pN s=n1 at *;generalize PM.pD s=d1 at *;generalize PM.pA s=a1 at *;go_enter func98,ntmps98
 go_wp2_with fail
 refine (cP _).out.mono ?_;rintro e w1 ⟨ao1,N1,cap1,rfl,hS,b⟩;have bb:=b.alloc b.size (.cells #[.bool a1,.slice ao1 N1 cap1,.bool d1] 146);have P11:Hid (Blk (w1.alloc (.cells #[.bool a1,.slice ao1 N1 cap1,.bool d1] 146)) w1.heap.size 146 [.bool a1,.slice ao1 N1 cap1,.bool d1]):=Wd (Blk.new _ _ _ rfl);have T11:Hid (SS (w1.alloc (.cells #[.bool a1,.slice ao1 N1 cap1,.bool d1] 146)) ao1 N1 cap1 n1):=Wd (hS.alloc _);have L1:=Wd hS.1;have B1:=Wd (bb);clear b bb hS;have hN0:((N1:Int) == 0)=false:=by have:=L1.out;have:=hll.out.1;simp;omega
 have hN1:¬ (N1:Int)=0:=by have:=L1.out;have:=hll.out.1;omega
 have hN2:0<N1/\N1<=100000:=by have:=L1.out;have:=hll.out;omega
 have e10:=P11.out.cell (j:=0) rfl;have e11:=P11.out.cell (j:=1) rfl;have e12:=P11.out.cell (j:=2) rfl;go_wp2_with fail
 refine (cL.out ao1 N1 cap1 _ B1.out T11.out hN2.1 hN2.2).mono ?_;rintro e w2 ⟨rfl,b⟩;have P12:=Wd (P11.out.keep b);have T12:=Wd (T11.out.below b (Nat.le_refl _));clear P11 T11;have B2:=Wd (B1.out.trans (b.mono B1.out.size));clear b;clear e10 e11 e12;go_wp2_with fail
 refine (cT.out _).mono ?_;rintro e w0 ⟨rfl,rfl⟩;go_wp2_with fail
 go_ret
 exact⟨rfl,B2.out⟩
theorem rUnlink_E (s:ByteArray)(hs:s.size<=maxLen)(w:World)(h:RW base rt rg I B L c S D (kap D) w)(h0:PM.perr s=0)(hnn:PM.pN s≠[])(p:Int)(dp:Dr)(hdp:D p=some dp)(z:ByteArray)(hpl:plA D (PM.pN s)=((p,z),0))(hz:¬ (z=PM.dot∨z=PM.dots))(hlk:NT.look z dp.l=none) :
 Calls prog 98 #[.pointer (some ⟨rt,0,none⟩),.string s] w fun e w'=>e=.returned (.int .i64 11)/\Below w.heap.size w w':=by
 have cP:=fun w=>Wd (rparsed (w:=w) hs);rw[h0] at cP;have hll:=Wd (And.intro (List.length_pos_iff.2 hnn) (pN_len s));have cL:=Wd (fun (ao:Option Addr) (n cap:Nat) (W:World) (hb:Below w.heap.size w W) (hl:SS W ao n cap (PM.pN s)) (h0:0<n) (hN:n<=100000)=>place_d (PM.pA s) (PM.pD s) (PM.pN s) ao n cap W (h.ex.keep hb) hl h0 hN);simp only[hpl] at cL;have cT:=Wd (fun W=>rdots_any z W);simp only[decide_eq_false hz] at cT;have cH:=Wd (fun (W:World) (hb:Below w.heap.size w W)=>has_d p z W (h.ex.keep hb) hdp);simp only[hlk,Option.getD_none] at cH;clear h h0 hnn hpl hdp hz hlk ;generalize PM.pN s=n1 at *;generalize PM.pD s=d1 at *;generalize PM.pA s=a1 at *;go_enter func98,ntmps98
 go_wp2_with fail
 refine (cP _).out.mono ?_;rintro e w1 ⟨ao1,N1,cap1,rfl,hS,b⟩;have bb:=b.alloc b.size (.cells #[.bool a1,.slice ao1 N1 cap1,.bool d1] 146);have P11:Hid (Blk (w1.alloc (.cells #[.bool a1,.slice ao1 N1 cap1,.bool d1] 146)) w1.heap.size 146 [.bool a1,.slice ao1 N1 cap1,.bool d1]):=Wd (Blk.new _ _ _ rfl);have T11:Hid (SS (w1.alloc (.cells #[.bool a1,.slice ao1 N1 cap1,.bool d1] 146)) ao1 N1 cap1 n1):=Wd (hS.alloc _);have L1:=Wd hS.1;have B1:=Wd (bb);clear b bb hS;have hN0:((N1:Int) == 0)=false:=by have:=L1.out;have:=hll.out.1;simp;omega
 have hN1:¬ (N1:Int)=0:=by have:=L1.out;have:=hll.out.1;omega
 have hN2:0<N1/\N1<=100000:=by have:=L1.out;have:=hll.out;omega
 have e10:=P11.out.cell (j:=0) rfl;have e11:=P11.out.cell (j:=1) rfl;have e12:=P11.out.cell (j:=2) rfl;go_wp2_with fail
 refine (cL.out ao1 N1 cap1 _ B1.out T11.out hN2.1 hN2.2).mono ?_;rintro e w2 ⟨rfl,b⟩;have P12:=Wd (P11.out.keep b);have T12:=Wd (T11.out.below b (Nat.le_refl _));clear P11 T11;have B2:=Wd (B1.out.trans (b.mono B1.out.size));clear b;clear e10 e11 e12;go_wp2_with fail
 refine (cT.out _).mono ?_;rintro e w0 ⟨rfl,rfl⟩;go_wp2_with fail
 refine (cH.out _ B2.out).mono ?_;rintro e w3 ⟨rfl,b⟩;have P13:=Wd (P12.out.keep b);have T13:=Wd (T12.out.below b (Nat.le_refl _));clear P12 T12;have B3:=Wd (B2.out.trans (b.mono B2.out.size));clear b;go_wp2_with fail
 go_ret
 exact⟨rfl,B3.out⟩
theorem rUnlink_F (s:ByteArray)(hs:s.size<=maxLen)(w:World)(h:RW base rt rg I B L c S D (kap D) w)(h0:PM.perr s=0)(hnn:PM.pN s≠[])(p:Int)(dp:Dr)(hdp:D p=some dp)(z:ByteArray)(hpl:plA D (PM.pN s)=((p,z),0))(hz:¬ (z=PM.dot∨z=PM.dots))(j:Int)(hlk:NT.look z dp.l=some j)(dj:Dr)(hD:D j=some dj) :
 Calls prog 98 #[.pointer (some ⟨rt,0,none⟩),.string s] w fun e w'=>e=.returned (.int .i64 14)/\Below w.heap.size w w':=by
 have cP:=fun w=>Wd (rparsed (w:=w) hs);rw[h0] at cP;have hll:=Wd (And.intro (List.length_pos_iff.2 hnn) (pN_len s));have cL:=Wd (fun (ao:Option Addr) (n cap:Nat) (W:World) (hb:Below w.heap.size w W) (hl:SS W ao n cap (PM.pN s)) (h0:0<n) (hN:n<=100000)=>place_d (PM.pA s) (PM.pD s) (PM.pN s) ao n cap W (h.ex.keep hb) hl h0 hN);simp only[hpl] at cL;have cT:=Wd (fun W=>rdots_any z W);simp only[decide_eq_false hz] at cT;have cH:=Wd (fun (W:World) (hb:Below w.heap.size w W)=>has_d p z W (h.ex.keep hb) hdp);have hj0:=look_ne h.ex hdp hlk;have hj1:(j == 0)=false:=by simpa using hj0
 simp only[hlk,Option.getD_some] at cH;obtain⟨K,cD⟩:=dir_yes w h.ex hD;replace cD:=Wd cD;have hK:(0:Int)<=(K:Int):=by omega
 clear h h0 hnn hpl hdp hz hlk hD ;generalize PM.pN s=n1 at *;generalize PM.pD s=d1 at *;generalize PM.pA s=a1 at *;go_enter func98,ntmps98
 go_wp2_with fail
 refine (cP _).out.mono ?_;rintro e w1 ⟨ao1,N1,cap1,rfl,hS,b⟩;have bb:=b.alloc b.size (.cells #[.bool a1,.slice ao1 N1 cap1,.bool d1] 146);have P11:Hid (Blk (w1.alloc (.cells #[.bool a1,.slice ao1 N1 cap1,.bool d1] 146)) w1.heap.size 146 [.bool a1,.slice ao1 N1 cap1,.bool d1]):=Wd (Blk.new _ _ _ rfl);have T11:Hid (SS (w1.alloc (.cells #[.bool a1,.slice ao1 N1 cap1,.bool d1] 146)) ao1 N1 cap1 n1):=Wd (hS.alloc _);have L1:=Wd hS.1;have B1:=Wd (bb);clear b bb hS;have hN0:((N1:Int) == 0)=false:=by have:=L1.out;have:=hll.out.1;simp;omega
 have hN1:¬ (N1:Int)=0:=by have:=L1.out;have:=hll.out.1;omega
 have hN2:0<N1/\N1<=100000:=by have:=L1.out;have:=hll.out;omega
 have e10:=P11.out.cell (j:=0) rfl;have e11:=P11.out.cell (j:=1) rfl;have e12:=P11.out.cell (j:=2) rfl;go_wp2_with fail
 refine (cL.out ao1 N1 cap1 _ B1.out T11.out hN2.1 hN2.2).mono ?_;rintro e w2 ⟨rfl,b⟩;have P12:=Wd (P11.out.keep b);have T12:=Wd (T11.out.below b (Nat.le_refl _));clear P11 T11;have B2:=Wd (B1.out.trans (b.mono B1.out.size));clear b;clear e10 e11 e12;go_wp2_with fail
 refine (cT.out _).mono ?_;rintro e w0 ⟨rfl,rfl⟩;go_wp2_with fail
 refine (cH.out _ B2.out).mono ?_;rintro e w3 ⟨rfl,b⟩;have P13:=Wd (P12.out.keep b);have T13:=Wd (T12.out.below b (Nat.le_refl _));clear P12 T12;have B3:=Wd (B2.out.trans (b.mono B2.out.size));clear b;go_wp2_with fail
 refine (cD.out _ B3.out).mono ?_;rintro e w0 ⟨rfl,rfl⟩;go_wp2_with fail
 go_ret
 exact⟨rfl,B3.out⟩
theorem rUnlink_G (s:ByteArray)(hs:s.size<=maxLen)(w:World)(h:RW base rt rg I B L c S D (kap D) w)(h0:PM.perr s=0)(hnn:PM.pN s≠[])(p:Int)(dp:Dr)(hdp:D p=some dp)(z:ByteArray)(hpl:plA D (PM.pN s)=((p,z),0))(hz:¬ (z=PM.dot∨z=PM.dots))(j:Int)(hlk:NT.look z dp.l=some j)(hD:D j=none)(hdd:PM.pD s=true) :
 Calls prog 98 #[.pointer (some ⟨rt,0,none⟩),.string s] w fun e w'=>e=.returned (.int .i64 13)/\Below w.heap.size w w':=by
 have cP:=fun w=>Wd (rparsed (w:=w) hs);rw[h0] at cP;have hll:=Wd (And.intro (List.length_pos_iff.2 hnn) (pN_len s));have cL:=Wd (fun (ao:Option Addr) (n cap:Nat) (W:World) (hb:Below w.heap.size w W) (hl:SS W ao n cap (PM.pN s)) (h0:0<n) (hN:n<=100000)=>place_d (PM.pA s) (PM.pD s) (PM.pN s) ao n cap W (h.ex.keep hb) hl h0 hN);simp only[hpl] at cL;have cT:=Wd (fun W=>rdots_any z W);simp only[decide_eq_false hz] at cT;have cH:=Wd (fun (W:World) (hb:Below w.heap.size w W)=>has_d p z W (h.ex.keep hb) hdp);have hj0:=look_ne h.ex hdp hlk;have hj1:(j == 0)=false:=by simpa using hj0
 simp only[hlk,Option.getD_some] at cH;have cD:=Wd (fun (W:World) (hb:Below w.heap.size w W)=>dir_no W (h.ex.keep hb) hD);clear h h0 hnn hpl hdp hz hlk hD ;generalize PM.pN s=n1 at *;generalize PM.pD s=d1 at *;generalize PM.pA s=a1 at *;subst hdd;go_enter func98,ntmps98
 go_wp2_with fail
 refine (cP _).out.mono ?_;rintro e w1 ⟨ao1,N1,cap1,rfl,hS,b⟩;have bb:=b.alloc b.size (.cells #[.bool a1,.slice ao1 N1 cap1,.bool true] 146);have P11:Hid (Blk (w1.alloc (.cells #[.bool a1,.slice ao1 N1 cap1,.bool true] 146)) w1.heap.size 146 [.bool a1,.slice ao1 N1 cap1,.bool true]):=Wd (Blk.new _ _ _ rfl);have T11:Hid (SS (w1.alloc (.cells #[.bool a1,.slice ao1 N1 cap1,.bool true] 146)) ao1 N1 cap1 n1):=Wd (hS.alloc _);have L1:=Wd hS.1;have B1:=Wd (bb);clear b bb hS;have hN0:((N1:Int) == 0)=false:=by have:=L1.out;have:=hll.out.1;simp;omega
 have hN1:¬ (N1:Int)=0:=by have:=L1.out;have:=hll.out.1;omega
 have hN2:0<N1/\N1<=100000:=by have:=L1.out;have:=hll.out;omega
 have e10:=P11.out.cell (j:=0) rfl;have e11:=P11.out.cell (j:=1) rfl;have e12:=P11.out.cell (j:=2) rfl;go_wp2_with fail
 refine (cL.out ao1 N1 cap1 _ B1.out T11.out hN2.1 hN2.2).mono ?_;rintro e w2 ⟨rfl,b⟩;have P12:=Wd (P11.out.keep b);have T12:=Wd (T11.out.below b (Nat.le_refl _));clear P11 T11;have B2:=Wd (B1.out.trans (b.mono B1.out.size));clear b;clear e10 e11 e12;go_wp2_with fail
 refine (cT.out _).mono ?_;rintro e w0 ⟨rfl,rfl⟩;go_wp2_with fail
 refine (cH.out _ B2.out).mono ?_;rintro e w3 ⟨rfl,b⟩;have P13:=Wd (P12.out.keep b);have T13:=Wd (T12.out.below b (Nat.le_refl _));clear P12 T12;have B3:=Wd (B2.out.trans (b.mono B2.out.size));clear b;go_wp2_with fail
 refine (cD.out _ B3.out).mono ?_;rintro e w0 ⟨rfl,rfl⟩;have e12:=P13.out.cell (j:=2) rfl;go_wp2_with fail
 go_ret
 exact⟨rfl,B3.out⟩
theorem rUnlink_H (s:ByteArray)(hs:s.size<=maxLen)(w:World)(h:RW base rt rg I B L c S D (kap D) w)(h0:PM.perr s=0)(hnn:PM.pN s≠[])(p:Int)(dp:Dr)(hdp:D p=some dp)(z:ByteArray)(hpl:plA D (PM.pN s)=((p,z),0))(hz:¬ (z=PM.dot∨z=PM.dots))(j:Int)(hlk:NT.look z dp.l=some j)(hD:D j=none)(hdd:PM.pD s=false)(hfi:IN.Fine I L B k S)(hI:I<=4096)(hL:L<=32768)(hk:k<1000000) :
 Calls prog 98 #[.pointer (some ⟨rt,0,none⟩),.string s] w fun e w'=>e=.returned (.int .i64 0)/\RP base rt rg I B L (c+2) (IN.ulS S j) (NT.cutD D p z) w w':=by
 have cP:=fun w=>Wd (rparsed (w:=w) hs);rw[h0] at cP;have hll:=Wd (And.intro (List.length_pos_iff.2 hnn) (pN_len s));have cL:=Wd (fun (ao:Option Addr) (n cap:Nat) (W:World) (hb:Below w.heap.size w W) (hl:SS W ao n cap (PM.pN s)) (h0:0<n) (hN:n<=100000)=>place_d (PM.pA s) (PM.pD s) (PM.pN s) ao n cap W (h.ex.keep hb) hl h0 hN);simp only[hpl] at cL;have cT:=Wd (fun W=>rdots_any z W);simp only[decide_eq_false hz] at cT;have cH:=Wd (fun (W:World) (hb:Below w.heap.size w W)=>has_d p z W (h.ex.keep hb) hdp);have hj0:=look_ne h.ex hdp hlk;have hj1:(j == 0)=false:=by simpa using hj0
 simp only[hlk,Option.getD_some] at cH;have cD:=Wd (fun (W:World) (hb:Below w.heap.size w W)=>dir_no W (h.ex.keep hb) hD);have hlw:=Wd h.low;have cX:=Wd (fun (W:World) (hb:Below w.heap.size w W)=>drop_d p z W (h.keep hb) hdp);have cA:=Wd (fun (W:World) (h2:RW base rt rg I B L c S (NT.cutD D p z) (kap D) W)=>away_d j W h2 hfi hI hL hk);have hu:NT.upd (NT.cutD D p z) j none=NT.cutD D p z:=by
  funext x
  by_cases e:x=j
  ·rw[e,NT.upd_at,NT.cutD_none.2 hD]
  ·rw[NT.upd_ne e]
 have hkp:kap (NT.cutD D p z)=kap D:=by
  funext x
  unfold kap
  by_cases e:D x=none
  ·rw[if_pos e,if_pos (NT.cutD_none.2 e)]
  ·rw[if_neg e,if_neg (fun e2=>e (NT.cutD_none.1 e2))]
 rw[hu] at cA;have hfin:=Wd (fun (W:World) (h2:RW base rt rg I B L c (IN.ulS S j) (NT.cutD D p z) (kap D) W) (hK:Keeps base UT w W)=>show RP base rt rg I B L (c+2) (IN.ulS S j) (NT.cutD D p z) w W from ⟨by rw[hkp];exact h2.more (by omega),hK⟩);clear h h0 hnn hpl hdp hz hlk hD hfi hkp hu ;generalize PM.pN s=n1 at *;generalize PM.pD s=d1 at *;generalize PM.pA s=a1 at *;subst hdd;go_enter func98,ntmps98
 go_wp2_with fail
 refine (cP _).out.mono ?_;rintro e w1 ⟨ao1,N1,cap1,rfl,hS,b⟩;have bb:=b.alloc b.size (.cells #[.bool a1,.slice ao1 N1 cap1,.bool false] 146);have P11:Hid (Blk (w1.alloc (.cells #[.bool a1,.slice ao1 N1 cap1,.bool false] 146)) w1.heap.size 146 [.bool a1,.slice ao1 N1 cap1,.bool false]):=Wd (Blk.new _ _ _ rfl);have T11:Hid (SS (w1.alloc (.cells #[.bool a1,.slice ao1 N1 cap1,.bool false] 146)) ao1 N1 cap1 n1):=Wd (hS.alloc _);have L1:=Wd hS.1;have B1:=Wd (bb);clear b bb hS;have hN0:((N1:Int) == 0)=false:=by have:=L1.out;have:=hll.out.1;simp;omega
 have hN1:¬ (N1:Int)=0:=by have:=L1.out;have:=hll.out.1;omega
 have hN2:0<N1/\N1<=100000:=by have:=L1.out;have:=hll.out;omega
 have e10:=P11.out.cell (j:=0) rfl;have e11:=P11.out.cell (j:=1) rfl;have e12:=P11.out.cell (j:=2) rfl;go_wp2_with fail
 refine (cL.out ao1 N1 cap1 _ B1.out T11.out hN2.1 hN2.2).mono ?_;rintro e w2 ⟨rfl,b⟩;have P12:=Wd (P11.out.keep b);have T12:=Wd (T11.out.below b (Nat.le_refl _));clear P11 T11;have B2:=Wd (B1.out.trans (b.mono B1.out.size));clear b;clear e10 e11 e12;go_wp2_with fail
 refine (cT.out _).mono ?_;rintro e w0 ⟨rfl,rfl⟩;go_wp2_with fail
 refine (cH.out _ B2.out).mono ?_;rintro e w3 ⟨rfl,b⟩;have P13:=Wd (P12.out.keep b);have T13:=Wd (T12.out.below b (Nat.le_refl _));clear P12 T12;have B3:=Wd (B2.out.trans (b.mono B2.out.size));clear b;go_wp2_with fail
 refine (cD.out _ B3.out).mono ?_;rintro e w0 ⟨rfl,rfl⟩;have e12:=P13.out.cell (j:=2) rfl;go_wp2_with fail
 clear e12;refine (cX.out _ B3.out).mono ?_;rintro e w4 ⟨rfl,h5,k5⟩;have k5:=Wd ((Keeps.new B3.out hlw.out).trans k5);have cA1:=Wd (cA.out _ h5);clear h5;go_wp2_with fail
 refine cA1.out.mono ?_;rintro e w5 ⟨rfl,h6,k6⟩;have hF:=Wd (hfin.out _ h6 (k5.out.trans k6));clear h6 k6;go_wp2_with fail
 go_ret
 exact⟨rfl,hF.out⟩
theorem comp_last {s:ByteArray}(hnn:PM.pN s≠[]):PM.comp (NT.last (PM.pN s))=true:=by
 have h0:=List.length_pos_iff.2 hnn;refine pN_comp s _ ?_;rw[<-last_at (PM.pN s) (PM.pN s).length rfl (by omega)];exact List.getElem_mem _
theorem name_no {z:ByteArray}(hk:PM.comp z=true):PM.name z=false↔(z=PM.dot∨z=PM.dots):=by
 unfold PM.name;rw[hk]
 by_cases e1:z=PM.dot <;> by_cases e2:z=PM.dots <;> simp[e1,e2]
theorem rUnlink_all (s:ByteArray)(hs:s.size<=maxLen)(w:World)(h:RW base rt rg I B L c S D (kap D) w)(hfi:IN.Fine I L B k S)(hI:I<=4096)(hL:L<=32768)(hk:k<1000000) :
 Calls prog 98 #[.pointer (some ⟨rt,0,none⟩),.string s] w fun e w'=>e=.returned (.int .i64 (er (NT.unlR D s)))/\RP base rt rg I B L (c+2) (NT.unlS S D s).1 (NT.unlS S D s).2 w w':=by
 have err:∀ r,NT.unlR D s=.error r->Calls prog 98 #[.pointer (some ⟨rt,0,none⟩),.string s] w (fun e w'=>e=.returned (.int .i64 r)/\Below w.heap.size w w')->Calls prog 98 #[.pointer (some ⟨rt,0,none⟩),.string s] w fun e w'=>e=.returned (.int .i64 (er (NT.unlR D s)))/\RP base rt rg I B L (c+2) (NT.unlS S D s).1 (NT.unlS S D s).2 w w':=fun r hr hc=>by
  unfold NT.unlS;rw[hr];refine hc.mono ?_;rintro e w' ⟨rfl,hb⟩;exact⟨rfl,h.same hb⟩
 by_cases h0:PM.perr s=0
 ·by_cases hnn:PM.pN s=[]
  ·exact err 14 (by unfold NT.unlR NT.cutR NT.placeC NT.place;rw[if_pos h0,if_pos hnn]) (rUnlink_B s hs w h0 hnn)
  ·by_cases hE:(plA D (PM.pN s)).2=0
   ·obtain⟨p,dp,hdp,hpl,-,hp,-⟩:=pl_ok hnn hE;have hu:∀ v,NT.ulc D (NT.last (PM.pN s)) (PM.pD s) p=v->NT.unlR D s=if v=0 then .ok p else .error v:=fun v hv=>by
     unfold NT.unlR NT.cutR NT.placeC;rw[if_pos h0,hp];simp only[hv]
    have hat:NT.at_ D p (NT.last (PM.pN s))=NT.look (NT.last (PM.pN s)) dp.l:=by unfold NT.at_;rw[hdp]
    by_cases hz:NT.last (PM.pN s)=PM.dot∨NT.last (PM.pN s)=PM.dots
    ·exact err 14 (hu 14 (by unfold NT.ulc;rw[if_pos ((name_no (comp_last hnn)).2 hz)])) (rUnlink_D s hs w h h0 hnn p dp hdp _ hpl hz)
    ·have hul:NT.ulc D (NT.last (PM.pN s)) (PM.pD s) p=(match NT.look (NT.last (PM.pN s)) dp.l with|none=>11|some x=>if D x≠none then 14 else if PM.pD s=true then 13 else 0):=by
      unfold NT.ulc;rw[if_neg (fun e=>hz ((name_no (comp_last hnn)).1 e)),hat]
      rfl
     cases hlk:NT.look (NT.last (PM.pN s)) dp.l with
     | none=>exact err 11 (hu 11 (by rw[hul,hlk])) (rUnlink_E s hs w h h0 hnn p dp hdp _ hpl hz hlk)
     | some j=>
       rw[hlk] at hul;simp only at hul
       cases hD:D j with
       | some dj=>exact err 14 (hu 14 (by rw[hul,hD,if_pos (by simp)])) (rUnlink_F s hs w h h0 hnn p dp hdp _ hpl hz j hlk dj hD)
       | none=>
         rw[hD,if_neg (fun e=>e rfl)] at hul
         cases hd:PM.pD s with
         | true=>exact err 13 (hu 13 (by rw[hul,hd,if_pos rfl])) (rUnlink_G s hs w h h0 hnn p dp hdp _ hpl hz j hlk hD hd)
         | false=>
           have e:=hu 0 (by rw[hul,hd,if_neg (by simp)]);rw[if_pos rfl] at e;unfold NT.unlS;rw[e];simp only[er];unfold NT.tgt;rw[hat,hlk];exact rUnlink_H s hs w h h0 hnn p dp hdp _ hpl hz j hlk hD hd hfi hI hL hk
   ·exact err _ (by unfold NT.unlR NT.cutR NT.placeC;rw[if_pos h0,pl_place hnn hE]) (rUnlink_C s hs w h h0 hnn _ rfl hE)
 ·exact err _ (by unfold NT.unlR NT.cutR;rw[if_neg h0]) (rUnlink_A s hs w h0)
end
end RN
namespace RN
open IN (Keeps)
open NT (Dr Ds er nu findR)
section
variable {base rt rg I B L c k:Nat}{S:Int->Option IN.Nd}{D:Ds}{κ:Int->Int}{w w':World}
end
end RN
namespace RN
open IN (Keeps)
open NT (Dr Ds er nu findR)
section
variable {base rt rg I B L c k:Nat}{S:Int->Option IN.Nd}{D:Ds}{κ:Int->Int}{w w':World}
theorem RW.fin {S':Int->Option IN.Nd}{D5 D':Ds}{w0:World}(h:RW base rt rg I B L (c+1) S' D5 (kap D) w'/\Keeps base UT w0 w')(e:D5=D')(hk:∀ n d k j,D' n=some d->(k,j)∈d.l->kap D j=kap D' j):RP base rt rg I B L (c+2) S' D' w0 w':=by
 subst e;exact⟨(h.1.kinds hk).more (by omega),h.2⟩
end
end RN
namespace RN
end RN
end Go.Proofs.YtfffibepcdlldaaGreat

namespace Go.Proofs.YtfffibepcdlldaaGreat
open Go.ChangeShapes Go.WideShapes Go.ChangeAt Go.RowKit Go.Maps
namespace RN
open IN (Keeps)
open NT (Dr Ds er nu findR TW TP TI e0)
section
variable {b1 b2 tg sg mb rt rg I L B q xg:Nat}{xl:List Value}{B0:Nat}{w0:World}{c1 c2:Nat}{S S1 S2 S':Int->Option IN.Nd}{D D1 D2 D':Ds}{w w':World}
theorem TW_keeps {A:Int->Option (Nat×Nat)}(h:TW b1 tg sg mb I L B q c1 A S D w){C:Nat}{T:Nat->Obj->Prop}(hK:Keeps C T w w')(h1:∀ k c s,¬ T k (.cells c 90 s))(h2:∀ k c s,¬ T k (.cells c 88 s))(h3:∀ k es c,¬ T k (.map es c))(h4:∀ k c s,¬ T k (.cells c 80 s))(h5:∀ k c s,¬ T k (.cells c 143 s))(h6:∀ k c,¬ T k (.cells c 211 (0,0))):TW b1 tg sg mb I L B q c1 A S D w':=by
 obtain⟨M,hM⟩:=h.ps;exact⟨h.tm.keeps hK h1 h2 (fun _ _ m es c _=>h3 m es c),⟨M,hM.keeps hK h4 h5 (fun es c=>h3 mb es c) h6⟩,h.ti⟩
section
variable (hB1:B0<=b1)(hB2:B0<=b2){ct:Nat}(hti:TI I ct e0 S D)(hf:IN.Fine I L B q S)(hI:I<=4096)(hL:L<=32768)(hL1:1<=L)(hq:q<1000000)(hc1:c1<65535)(hc2:c2<65000)
end
end
end RN
namespace RN
open IN (Keeps)
open NT (Dr Ds er nu findR TW TP TI e0)
section
variable {b1 b2 tg sg mb rt rg I L B q:Nat}{B0:Nat}{c1 c2:Nat}{S:Int->Option IN.Nd}{D:Ds}
end
end RN
end Go.Proofs.YtfffibepcdlldaaGreat

namespace Go.Proofs.YtfffibepcdlldaaGreat
open Go.ChangeShapes Go.WideShapes Go.ChangeAt Go.RowKit
namespace RN
open IN (Keeps)
open NT (Dr Ds er nu findR)
section
variable {base rg I B L:Nat}
theorem rNewT (w:World)(h:IN.RS base w rg (I:Int) (B:Int) (L:Int) (IN.lst (fun _=>none) I))(hI1:1<=I)(hI:I<=4096) :
 Calls prog 36 #[.pointer (some ⟨rg,0,none⟩)] w fun e w'=>∃ rt,e=.returned (.tuple #[.pointer (some ⟨rt,0,none⟩),.int .i64 0])/\RW base rt rg I B L 0 NT.Sn NT.D0 (kap NT.D0) w'/\Keeps base UT w w':=by
 have hnil:IN.lst (fun _=>none) I=[]:=List.eq_nil_iff_forall_not_mem.2 fun x hx=>by have:=(IN.mem_lst.1 hx).2.2;cases this
 have hlow:IN.Low (fun _=>none) 1:=⟨Nat.le_refl _,rfl,fun m a b=>by omega⟩;have cM:=IN.rMake_yes 2 1 w hI h (by unfold IN.mkR;rw[hnil,if_pos (.inr rfl),if_pos (by simp only[List.length_nil];omega)]) hlow hI1;rw[hnil] at h;obtain⟨z3,z4,z5,z6,v,q,hM,hF⟩:=h;have hq:q.length=0:=hF.len;obtain⟨ao,cap,hv⟩:=Own.form hM.row;rw[hq] at hv;subst hv;have c7:=hM.box.cell (j:=7) rfl;have hlw:=Wd hM.low;replace cM:=Wd cM;clear hM hF hnil;go_enter func36,ntmps36
 go_wp2_with fail
 refine cM.out.mono ?_;rintro e w1 ⟨rfl,hR,hK⟩;have hb1:=(Below.refl w1.heap.size w1).alloc (Nat.le_refl _) (.cells #[.int .i64 1,.int .i64 1,.slice none 0 0] 153);have hb2:=hb1.alloc hb1.size (.cells #[.pointer (some ⟨rg,0,none⟩),.slice (some ⟨w1.heap.size,0,none⟩) 1 1] 156);have hsz:base<=w1.heap.size:=Nat.le_trans hlw.out hK.size;have hdir:=(Blk.new w1 153 [.int .i64 1,.int .i64 1,.slice none 0 0] rfl).alloc (.cells #[.pointer (some ⟨rg,0,none⟩),.slice (some ⟨w1.heap.size,0,none⟩) 1 1] 156);have hbox:=Blk.new (w1.alloc (.cells #[.int .i64 1,.int .i64 1,.slice none 0 0] 153)) 156 [.pointer (some ⟨rg,0,none⟩),.slice (some ⟨w1.heap.size,0,none⟩) 1 1] rfl;have hD0:toD [⟨1,1,[]⟩]=NT.D0:=by
  funext m
  rw[toD_cons];unfold NT.D0
  by_cases e:m=1
  ·rw[if_pos e.symm,if_pos e];rfl
  ·rw[if_neg (fun e2=>e e2.symm),if_neg e];rfl
 have hfin:RW base (w1.alloc (.cells #[.int .i64 1,.int .i64 1,.slice none 0 0] 153)).heap.size rg I B L 0 NT.Sn NT.D0 (kap NT.D0) ((w1.alloc (.cells #[.int .i64 1,.int .i64 1,.slice none 0 0] 153)).alloc (.cells #[.pointer (some ⟨rg,0,none⟩),.slice (some ⟨w1.heap.size,0,none⟩) 1 1] 156)):=by
  refine⟨⟨[⟨1,1,[]⟩],⟨⟨_,[⟨1,1,.slice none 0 0⟩],⟨hbox,⟨rfl,.inr ⟨w1.heap.size,1,_,rfl,hsz,hdir,Nat.le_refl _,by decide,rfl,rfl⟩⟩,Nat.le_trans hsz hb1.size⟩,⟨⟨rfl,rfl,NE.nil _⟩,trivial⟩⟩,⟨by decide,fun x hx=>?_,fun x hx=>?_⟩⟩,⟨hD0,by simp,fun x hx y hy=>?_⟩,by simp,fun x hx=>?_⟩,hR.keep hb2⟩
  ·rw[List.mem_singleton.1 hx];exact Nat.zero_le _
  ·rw[List.mem_singleton.1 hx];intro y hy;cases hy
  ·rw[List.mem_singleton.1 hx] at hy;cases hy
  ·rw[List.mem_singleton.1 hx];exact Nat.zero_le _
 have hK2:Keeps base UT w _:=(keeps_dt hK).trans (Keeps.new hb2 hsz);have hfin:=Wd (And.intro hfin hK2);clear hK2 hD0 hbox hdir hb2 hb1 hR hK c7;go_wp2_with fail
 go_ret2
 refine⟨_,rfl,?_,hfin.out.2⟩;have hh:=hfin.out.1;rw[show (w1.alloc (.cells #[.int .i64 1,.int .i64 1,.slice none 0 0] 153)).heap.size=w1.heap.size+1 from by simp only[World.alloc,Array.size_push]] at hh;exact hh
end
end RN
end Go.Proofs.YtfffibepcdlldaaGreat
