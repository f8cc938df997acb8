/- A new tree over a new store. -/
import Derived.Test.YtfffibepcdlldaaGreatZA24
import Derived.Test.YtfffibepcdlldaaGreatZA10
import Derived.Test.YtfffibepcdlldaaGreatZA25
set_option linter.unusedVariables false
set_option linter.unusedSimpArgs false
set_option maxRecDepth 100000
set_option maxHeartbeats 64000000
open Go.Proofs.Tryz

namespace Go.Proofs.YtfffibepcdlldaaGreat
open Go.ChangeShapes Go.WideShapes Go.ChangeAt Go.RowKit Go.Maps
namespace NT
open IN (Keeps)
section
variable {base sg mb I L B k:Nat}{M:Int->Option Nat}{S:Int->Option IN.Nd}
def D0:Ds:=fun n=>if n=1 then some ⟨1,[]⟩ else none
def nw (w3:World)(sg g:Nat):World:=(((w3.alloc (.cells #[.int .i64 1,.pointer (some ⟨g,0,none⟩)] 84)).setCell ⟨g,0,none⟩ (.int .i64 1)).setCell ⟨g,1,none⟩ (.pointer (some ⟨g,0,none⟩))).alloc (.cells #[.pointer (some ⟨sg,0,none⟩),.int .i64 1,.pointer (some ⟨g,0,none⟩)] 90)
theorem new_tree {w2 w3:World}{g m:Nat}{S:Int->Option IN.Nd}(hp:∃ M',IN.PS base w2 sg mb M' I L B k S)(hlow:base<=w2.heap.size)(hg:w2.heap.size<=g)(hm:w2.heap.size<=m)(hgm:g≠m)(hb:Blk w3 g 88 [.int .i64 0,.pointer none,.map (some m)])(hM:NS.MB w3 m (fun _=>none))(b3:Below w2.heap.size w2 w3) :
 (∃ M',IN.PS base (nw w3 sg g) sg mb M' I L B k S)/\TM base (nw w3 sg g) (w3.heap.size+1) sg mb (fun n=>if n=1 then some (g,m) else none) D0/\Below w2.heap.size w2 (nw w3 sg g):=by
 obtain⟨M',hp⟩:=hp;have hsz:w2.heap.size<=w3.heap.size:=b3.size;have hmb:=hp.pm.mp.lt;have bA:Below w2.heap.size w2 (w3.alloc (.cells #[.int .i64 1,.pointer (some ⟨g,0,none⟩)] 84)):=b3.alloc hsz _;have bB:=(bA.setCell (p:=⟨g,0,none⟩) hg (.int .i64 1)).setCell (p:=⟨g,1,none⟩) hg (.pointer (some ⟨g,0,none⟩));have bC:Below w2.heap.size w2 (nw w3 sg g):=bB.alloc (by simp;omega) _;have hb4:Blk (nw w3 sg g) g 88 [.int .i64 1,.pointer (some ⟨g,0,none⟩),.map (some m)]:=(((hb.alloc _).set 0 (.int .i64 1)).set 1 (.pointer (some ⟨g,0,none⟩))).alloc _;have hM4:NS.MB (nw w3 sg g) m (fun _=>none):=(((hM.alloc _).far (p:=⟨g,0,none⟩) hgm.symm (.int .i64 1)).far (p:=⟨g,1,none⟩) hgm.symm (.pointer (some ⟨g,0,none⟩))).alloc _;have hbox:Blk (nw w3 sg g) (w3.heap.size+1) 90 [.pointer (some ⟨sg,0,none⟩),.int .i64 1,.pointer (some ⟨g,0,none⟩)]:=Blk.new _ _ _ (by simp);have hpA:pa (fun n=>if n=1 then some (g,m) else none) 1=some g:=by simp[pa]
 refine⟨⟨M',hp.keep bC⟩,⟨?_,fun n=>?_,?_,fun n g' m' d' hA' hD'=>?_,fun n n' g1 m1 g2 m2 h1 h2 e=>?_,by omega,fun n g1 m1 h1=>?_⟩,bC⟩
 ·rw[hpA];exact hbox
 ·unfold D0;split <;> simp
 ·simp[D0]
 ·unfold D0 at hD'
  by_cases e:n=1
  ·rw[if_pos e] at hA' hD'
   cases hA'
   cases hD'
   refine⟨?_,hM4.congr fun f=>by simp[nm,look]⟩;unfold dcl;rw[hpA];exact hb4
  ·rw[if_neg e] at hA'
   cases hA'
 ·by_cases e1:n=1
  ·by_cases e2:n'=1
   ·exact absurd (e1.trans e2.symm) e
   ·rw[if_neg e2] at h2;cases h2
  ·rw[if_neg e1] at h1;cases h1
 ·by_cases e1:n=1
  ·rw[if_pos e1] at h1
   cases h1
   exact⟨by omega,by omega,by omega⟩
  ·rw[if_neg e1] at h1;cases h1
theorem New_yes (w:World)(h:IN.PS base w sg mb M I L B k (fun _=>none))(hI:1<=I)(hL:1<=L):Calls prog 10 #[.pointer (some ⟨sg,0,none⟩)] w fun e w'=>∃ tg A,e=.returned (.tuple #[.pointer (some ⟨tg,0,none⟩),.int .i64 0])/\(∃ M',IN.PS base w' sg mb M' I L B k (IN.upd (fun _=>none) 1 (some (IN.newNd 2))))/\TM base w' tg sg mb A D0/\Keeps base (IN.PT mb) w w':=by
 have hnil:IN.lst (fun _=>none) I=[]:=by unfold IN.lst;simp[IN.ent]
 have cA:=IN.All_any w h;rw[hnil] at cA;replace cA:=Wd cA;have cM:=Wd (fun (w':World) (hb:Below w.heap.size w w')=>IN.Make_yes 2 1 w' (h.keep hb) (by unfold IN.mkR;simp[hnil];omega) ⟨Nat.le_refl _,rfl,fun m h1 h2=>by omega⟩ hI hL);have cW:=fun w=>Wd (newNode_dir 1 0 none w);have hlow:=Wd h.low;clear h;go_enter func10,ntmps10
 go_wp2_with fail
 refine cA.out.mono ?_;rintro e w1 ⟨v,rfl,hown,b1⟩;obtain⟨ao,cap,rfl⟩:=Own.form hown;have B1:=Wd b1;have cM1:=Wd (cM.out _ b1);simp only[List.length_nil] at hown ⊢;clear b1 hown cA cM;go_wp2_with fail
 refine cM1.out.mono ?_;rintro e w2 ⟨rfl,hPS,hK⟩;have hK2:=Wd ((Keeps.new (T:=IN.PT mb) B1.out hlow.out).trans hK);have hPS:=Wd hPS;clear hK cM1;go_wp2_with fail
 refine (cW _).out.mono ?_;rintro e w3 ⟨g,m,rfl,hg,hm,hgm,hb,hM,b3⟩;have hb2:=hb.alloc (.cells #[.int .i64 1,.pointer (some ⟨g,0,none⟩)] 84);have c0:=hb2.cell (j:=0) rfl;have c1:=hb2.cell (j:=1) rfl;have f0:=hb2.fz;have hn3:Blk (((w3.alloc (.cells #[.int .i64 1,.pointer (some ⟨g,0,none⟩)] 84)).setCell ⟨g,0,none⟩ (.int .i64 1)).setCell ⟨g,1,none⟩ (.pointer (some ⟨g,0,none⟩))) w3.heap.size 84 [.int .i64 1,.pointer (some ⟨g,0,none⟩)]:=
  (((Blk.new w3 _ _ rfl).far (p:=⟨g,0,none⟩) (Nat.ne_of_gt hb.lt) _).far (p:=⟨g,1,none⟩) (Nat.ne_of_gt hb.lt) _)
 have e0:=hn3.cell (j:=0) rfl;have e1:=hn3.cell (j:=1) rfl;have hfin:=Wd (new_tree hPS.out (Nat.le_trans hlow.out hK2.out.size) hg hm hgm hb hM b3);clear hb hb2 hM b3 hn3;go_wp2_with fail
 go_ret2
 exact⟨_,_,rfl,hfin.out.1,hfin.out.2.1,hK2.out.trans (Keeps.new hfin.out.2.2 (Nat.le_trans hlow.out hK2.out.size))⟩
end
end NT
namespace NT
open IN (Keeps)
structure TW (base tg sg mb I L B q c:Nat)(A:Int->Option (Nat×Nat))(S:Int->Option IN.Nd)(D:Ds)(w:World):Prop where
 tm:TM base w tg sg mb A D
 ps:∃ M,IN.PS base w sg mb M I L B q S
 ti:TI I c e0 S D
def TP (base tg sg mb I L B q c:Nat)(A:Int->Option (Nat×Nat))(S:Int->Option IN.Nd)(D:Ds)(w w':World):Prop:=(∃ A',TW base tg sg mb I L B q c A' S D w')/\Keeps base (FT A mb) w w'
section
variable {base:Nat}{w w':World}{tg sg mb I L B q c:Nat}{A:Int->Option (Nat×Nat)}{D:Ds}{S:Int->Option IN.Nd}
theorem TW.more (h:TW base tg sg mb I L B q c A S D w){c':Nat}(hc:c<=c'):TW base tg sg mb I L B q c' A S D w:=⟨h.tm,h.ps,h.ti.more hc⟩
theorem TW.keep (h:TW base tg sg mb I L B q c A S D w)(hb:Below w.heap.size w w'):TW base tg sg mb I L B q c A S D w':=⟨h.tm.keep hb,by obtain⟨M,hM⟩:=h.ps;exact⟨M,hM.keep hb⟩,h.ti⟩
theorem TW.same (h:TW base tg sg mb I L B q c A S D w)(hb:Below w.heap.size w w'):TP base tg sg mb I L B q (c+1) A S D w w':=⟨⟨A,(h.keep hb).more (by omega)⟩,Keeps.new hb h.tm.low⟩
theorem TI.few (h:TI I c e0 S D)(hc:c<65535):∀ n d,D n=some d->d.l.length<65535:=fun n d hd=>by have:=(h.asc n d hd).2;omega
theorem TI.far (h:TI I c e0 S D):∀ n d,D n=some d->Reach D (NT.far D n) n:=fun n d hd=>by
 obtain⟨k,hk⟩:=h.reach n d hd;rw[far_reach hk];exact hk
theorem TI.step_in (h:TI I c e0 S D){n m:Int}{x:ByteArray}(hs:step D n x=.ok m):S m≠none:=by
 unfold step at hs
 cases hD:D n with
 | none=>rw[hD] at hs;cases hs
 | some d=>
   rw[hD] at hs;simp only at hs
   split at hs
   ·cases hs
    obtain⟨y,hy,-⟩:=h.dir hD;rw[hy];simp
   ·split at hs
    ·cases hs
     obtain⟨d2,h2⟩:=h.up n d hD;obtain⟨y,hy,-⟩:=h.dir h2;rw[hy];simp
    ·cases hl:look x d.l with
     | none=>rw[hl] at hs;cases hs
     | some j=>
       rw[hl] at hs
       cases hs
       exact h.has (n:=n) (k:=x) (by unfold at_;rw[hD];exact hl)
theorem TI.goes_in (h:TI I c e0 S D):∀ {l:List ByteArray} {n m:Int},S n≠none->goes D n l=.ok m->S m≠none
 | [],n,m,hn,hg=>by cases hg;exact hn
 | x :: l,n,m,hn,hg=>by
   unfold goes at hg
   split at hg
   ·cases hg
   ·rename_i m2 h2
    exact h.goes_in (h.step_in h2) hg
theorem TI.find_in (h:TI I c e0 S D){l:List ByteArray}{d:Bool}{n:Int}(hf:find D l d=.ok n):S n≠none:=by
 unfold find at hf
 split at hf
 ·cases hf
 ·rename_i m hg
  split at hf
  ·cases hf
  ·cases hf
   obtain⟨d1,h1,-⟩:=h.root;obtain⟨x,hx,-⟩:=h.dir h1;exact h.goes_in (by rw[hx];simp) hg
theorem TI.i64 (h:TI I c e0 S D)(hI:I<=4096){n:Int}(hn:S n≠none):IS.I64 n:=by
 have:=h.num n hn;unfold IS.I64
 omega
theorem TI.num64 (h:TI I c e0 S D)(hI:I<=4096):Num64 D:=fun m d hD k j hj=>h.i64 hI (h.has (n:=m) (k:=k) (by unfold at_;rw[hD];exact hj))
theorem TW.lim (h:TW base tg sg mb I L B q c A S D w):I<=4096:=by
 obtain⟨M,hM⟩:=h.ps;exact hM.lim.1
theorem Find_all (s:ByteArray)(hs:s.size<=maxLen)(w:World)(h:TW base tg sg mb I L B q c A S D w) :
 Calls prog 34 #[.pointer (some ⟨tg,0,none⟩),.string s] w fun e w'=>e=.returned (.tuple #[.int .i64 (nu (findR D s)),.int .i64 (er (findR D s))])/\Below w.heap.size w w':=Find_any s hs w h.tm
def tgt (D:Ds)(p:Int)(s:ByteArray):Int:=(at_ D p (last (PM.pN s))).getD 0
def unlS (S:Int->Option IN.Nd)(D:Ds)(s:ByteArray):(Int->Option IN.Nd)×Ds:=match unlR D s with
 | .error _=>(S,D)
 | .ok p=>(IN.ulS S (tgt D p s),cutD D p (last (PM.pN s)))
def lnk (L:Nat)(S:Int->Option IN.Nd)(D:Ds)(s t:ByteArray):Int×(Int->Option IN.Nd)×Ds:=
 if PM.perr s≠0 then (PM.perr s,S,D) else if PM.perr t≠0 then (PM.perr t,S,D) else match find D (PM.pN s) (PM.pD s) with
 | .error e=>(e,S,D)
 | .ok n=>if D n≠none then (27,S,D) else match vacant D 1 t with
   | .error e=>(e,S,D)
   | .ok p=>if IN.lkR L S n=0 then (0,IN.lkS L S n,putD D p (last (PM.pN t)) n) else (IN.lkR L S n,S,D)
theorem lkS_no {L:Nat}{S:Int->Option IN.Nd}{n:Int}(h:IN.lkR L S n≠0):IN.lkS L S n=S:=by
 unfold IN.lkR IN.askR at h;unfold IN.lkS
 cases hx:S n with
 | none=>rfl
 | some x=>
   rw[hx] at h;simp only at h ⊢
   by_cases h2:x.links<(L:Int)
   ·rw[if_pos h2] at h;exact absurd rfl h
   ·rw[if_neg h2]
end
end NT
namespace NT
open IN (Keeps)
section
variable {base:Nat}{w w':World}{tg sg mb I L B q c:Nat}{A:Int->Option (Nat×Nat)}{D:Ds}{S:Int->Option IN.Nd}
open Classical in
noncomputable def lowN (S:Int->Option IN.Nd):Nat:=if h:∃ n,IN.Low S n then Classical.choose h else 0
theorem low_uni {S:Int->Option IN.Nd}{n m:Nat}(h:IN.Low S n)(h':IN.Low S m):n=m:=by
 rcases Nat.lt_trichotomy n m with h1|h1|h1
 ·exact absurd h.2.1 (h'.2.2 n h.1 h1)
 ·exact h1
 ·exact absurd h'.2.1 (h.2.2 m h'.1 h1)
theorem lowN_eq {S:Int->Option IN.Nd}{n:Nat}(h:IN.Low S n):lowN S=n:=by
 have he:∃ n,IN.Low S n:=⟨n,h⟩;unfold lowN;rw[dif_pos he];exact low_uni (Classical.choose_spec he) h
noncomputable def mk (I:Nat) (S:Int->Option IN.Nd) (D:Ds) (s:ByteArray) (kind:Int):(Int×Int)×(Int->Option IN.Nd)×Ds:=
 if kind=1∨kind=2 then
  if PM.perr s≠0 then ((0,PM.perr s),S,D) else match vacant D kind s with
  | .error e=>((0,e),S,D)
  | .ok p=>if IN.mkR I S kind≠0 then ((0,IN.mkR I S kind),S,D) else (((lowN S:Nat),0),IN.upd S (lowN S:Nat) (some (IN.newNd kind)),mkD D p (last (PM.pN s)) (lowN S:Nat) kind)
 else ((0,2),S,D)
theorem mkR_low {I:Nat}{S:Int->Option IN.Nd}{kind:Int}(hk:kind=1∨kind=2)(h:IN.mkR I S kind=0):∃ n,n<=I/\IN.Low S n:=by
 unfold IN.mkR at h;rw[if_pos hk] at h
 split at h
 ·rename_i h2
  exact IN.low_of h2
 ·cases h
end
end NT
namespace NT
open IN (Keeps)
def Sn:Int->Option IN.Nd:=IN.upd (fun _=>none) 1 (some (IN.newNd 2))
theorem cl_D0 (n j:Int):cl D0 n j=0:=by
 unfold cl D0
 by_cases h:n=1 <;> simp[h,cntL]
theorem cnt_D0 (j:Int):∀ N:Nat,cnt D0 j N=0
 | 0=>rfl
 | N+1=>by unfold cnt;rw[cnt_D0 j N,cl_D0]
theorem D0_at {n:Int}{d:Dr}(h:D0 n=some d):n=1/\d=⟨1,[]⟩:=by
 unfold D0 at h
 split at h
 ·cases h;exact⟨by assumption,rfl⟩
 ·cases h
theorem Sn_at {n:Int}{x:IN.Nd}(h:Sn n=some x):n=1/\x=IN.newNd 2:=by
 unfold Sn IN.upd at h
 split at h
 ·cases h;exact⟨by assumption,rfl⟩
 ·cases h
theorem TI.new {I:Nat}(hI:1<=I):TI I 0 e0 Sn D0:=by
 have h1:D0 1=some ⟨1,[]⟩:=if_pos rfl;have h2:Sn 1=some (IN.newNd 2):=IN.upd_at _ _ _;refine⟨⟨_,h1,rfl⟩,fun n hn=>?_,fun n=>?_,fun n x hx _=>?_,fun j x hx=>?_,fun j _=>⟨cnt_D0 j I,rfl⟩,fun n d k j hd hl=>?_,fun j d hd=>?_,fun n d hd=>?_,fun n d hd=>?_⟩
 ·obtain⟨x,hx⟩:=Option.ne_none_iff_exists'.1 hn;obtain⟨rfl,-⟩:=Sn_at hx
  omega
 ·constructor
  ·intro hn;obtain⟨d,hd⟩:=Option.ne_none_iff_exists'.1 hn;obtain⟨rfl,-⟩:=D0_at hd;exact⟨_,h2,rfl⟩
  ·rintro ⟨x,hx,-⟩;obtain⟨rfl,-⟩:=Sn_at hx;rw[h1];simp
 ·obtain⟨rfl,rfl⟩:=Sn_at hx
  rfl
 ·obtain⟨rfl,rfl⟩:=Sn_at hx;rw[cnt_D0];exact⟨⟨Int.le_refl _,fun _=>rfl⟩,rfl⟩
 ·obtain⟨rfl,rfl⟩:=D0_at hd
  cases hl
 ·obtain⟨rfl,rfl⟩:=D0_at hd;exact⟨_,h1⟩
 ·obtain⟨rfl,rfl⟩:=D0_at hd;exact⟨List.Pairwise.nil,Nat.le_refl _⟩
 ·obtain⟨rfl,rfl⟩:=D0_at hd;exact⟨0,rfl⟩
theorem New_tw {base:Nat}{sg mb I L B k:Nat}{M:Int->Option Nat}(w:World)(h:IN.PS base w sg mb M I L B k (fun _=>none))(hI:1<=I)(hL:1<=L) :
 Calls prog 10 #[.pointer (some ⟨sg,0,none⟩)] w fun e w'=>∃ tg A,e=.returned (.tuple #[.pointer (some ⟨tg,0,none⟩),.int .i64 0])/\TW base tg sg mb I L B k 0 A Sn D0 w'/\Keeps base (IN.PT mb) w w':=
 (New_yes w h hI hL).mono fun e w' hh=>by
  obtain⟨tg,A,h1,h2,h3,h4⟩:=hh;exact⟨tg,A,h1,⟨h3,h2,TI.new hI⟩,h4⟩
end NT
end Go.Proofs.YtfffibepcdlldaaGreat
