/- A part. -/
import Derived.Test.YtfffibepcdlldaaGreatZA01
import Derived.RangeFuncNested
import Derived.RangeFuncBound
import Derived.RangeFuncCalls
import Derived.RangeFuncLeaves
import Derived.RangeFuncStops
import Derived.Shelf.Abstract
import Derived.Shelf.RegionOpen
import Derived.WalkKit
import Derived.OwnWalkIn
import Derived.TacticsInMore
import Derived.RegionIn
import Derived.LoopNIn
import Derived.LoopIn
import Derived.Maps.OwnIn
import Derived.Maps.AppendAt
import Derived.Sort.MapsRangeIn
import Derived.RangeFuncBox
import Derived.Shelf.SortM.Plain
import Derived.Shelf.SortM.SortNone
import Derived.Test.YtfffibepcdlldaaGreatProg
import Derived.Test.YtfffibepcdlldaaGreatZA05
import Derived.Lib.SlKeysI
set_option linter.unusedVariables false
set_option linter.unusedSimpArgs false
set_option maxRecDepth 100000
set_option maxHeartbeats 64000000
open Go.Proofs.Tryz

namespace Go.Proofs.YtfffibepcdlldaaGreat
open Go.ChangeShapes Go.WideShapes Go.ChangeAt Go.RowKit Go.Shelf Go.Maps
attribute [local go_sem] Oper.semAt_some
namespace IS
def nk (f:Nat):Value:=.int .i64 (f:Int)
structure Come (D:DataW Unit)(left:Lit->Bool)(ss:List Nat):Prop where
 once:ss.Nodup
 iff:∀ f:Nat,f∈ss↔f<65536/\Maps.has D (key f)=true/\left (key f)=false
theorem Come.start (D:DataW Unit):Come D (Maps.has D) []:=
 ⟨List.nodup_nil,fun f=>by cases Maps.has D (key f) <;> simp⟩
theorem Come.step {D:DataW Unit}{left:Lit->Bool}{ss:List Nat}(h:Come D left ss){x:Nat}{y:DataW Unit}(hx:x<65536)(hlk:left (key x)=true)(hat:∀ z,D.atKey (key x) z=y) :
 Come D (fun z=>left z && !z.sameKey (key x)) (ss ++ [x]):=by
 have hhas:Maps.has D (key x)=true:=has_true_of_atKey hat;have hnew:x∉ss:=fun hm=>by have:=((h.iff x).1 hm).2.2;rw[hlk] at this;cases this
 refine⟨List.nodup_append.2 ⟨h.once,by simp,fun a ha b hb=>by simp at hb;subst hb;exact fun e=>hnew (e▸ha)⟩,fun f=>?_⟩;rw[List.mem_append,List.mem_singleton,h.iff f]
 by_cases e:f=x
 ·subst e;have:(key f).sameKey (key f)=true:=WideAt.sameKey_self (isKey f (i64_nat hx));simp[hhas,this,hx]
 ·have:(key f).sameKey (key x)=false:=by
   simp only[key,Lit.sameKey];simp
   omega
  simp[e,this]
theorem keys1_in (F:Fence) (n:Nat) (hf:F.fn 104) (hro:F.round=none) (hn:1<=n) (l Bm b N:Nat) (M:Int->Option Nat) (J Jx:List Nat->World->Prop)
 (D:DataW Unit) (hN:Maps.size D<=N)
 (hY:∀ pre x W,J pre W->pre.length<N->YieldAt F (n-1) prog l #[nk x] W fun e W'=>(e=.returned (.bool true)/\J (pre ++ [x]) W'/\KeepsWalks W W')∨(e=.returned (.bool false)/\Jx (pre ++ [x]) W'))
 (W:World) (hJ:AbidesFrom W.heap.size J) (hm:W.cell? ⟨Bm,0,none⟩=some (.map (some b)))
 (hown:W.ownsMap prog 3 PR b (Maps.size D) D) (hhas:∀ f,I64 f->Maps.has D (key f)=(M f).isSome) (hbd:∀ f,M f≠none->0<=f/\f<65536) (h0:J [] W) :
 CallsIn F n prog 104 #[.func (.yield l) #[] #[],.pointer (some ⟨Bm,0,none⟩)] W fun e W'=>(∃ v,e=.returned v) /\
  ((∃ ss,Nums M ss/\J ss W')∨(∃ pre,True/\Jx pre W')):=by
 refine callsIn_of_wp func104 rfl hf ?_ hro;simp only[ntmps104,List.size_toArray,List.length_cons,List.length_nil,Nat.reduceAdd,Nat.reduceSub,Array.replicate_succ,Array.replicate_zero,List.push_toArray,List.append_toArray,List.nil_append,List.cons_append]
 gi_wp2_with (first
  | (gi_at_range;refine wpListIn_range_own _ rfl _ 78 rfl 3 118 keyed_int und_map PR b (Maps.size D) D rfl hown ?_;intro w0 hrg0 hg0 hs0)
  | gi_in)
 go_frame
 gi_loopw [3] (fun _ wr=>∃ (left:Lit->Bool) (cnt:Nat) (ss:List Nat),wr.ranges prog 3 PR b W.heap.size (Maps.size D) D left cnt/\ss.length+cnt<=Maps.size D/\Come D left ss/\J ss wr)
  (fun _ wr=>wr.rangeLeft b W.heap.size)
 case atStart=>
  exact⟨_,_,[],hrg0,by simp,Come.start D,hJ [] W w0 none h0 hg0 (fun r e=>by cases e)⟩
 case round=>
  obtain⟨left,cnt,ss,hrg,hcs,hC,hJs⟩:=hrel
  gi_wp2_with (first
   | (gi_at_next;refine wpListIn_next_ranges _ rfl _ rfl 3 keyed_int PR (Value.int .i64) id (fun k kl hk=>by obtain⟨x,rfl,hx,hwf⟩:=Maps.keyOf_int_inv und_int hk;exact⟨x,rfl⟩) (fun v _ _=>⟨v,rfl⟩) b W.heap.size (Maps.size D) _ _ _ rfl hrg ?_ ?_)
   | gi_in)
  ·intro hc0 hl0
   gi_wp2
   go_end0
   refine⟨⟨_,rfl⟩,.inl ⟨ss,⟨hC.once,fun f=>?_⟩,hJs⟩⟩;rw[hC.iff f,hl0]
   constructor
   ·rintro ⟨h1,h2,-⟩ h3;rw[hhas f (i64_nat h1),h3] at h2
    cases h2
   ·intro h;have h1:=hbd f h;refine⟨by omega,?_,rfl⟩;rw[hhas f (i64_nat (by omega))]
    cases e:M f with
    | none=>exact absurd e h
    | some _=>rfl
  ·intro x c kl yd yp w2 cnt2 hkey hlk hv hat hrg2 hlt hg2 hs2 hen;have hx:kl=key x/\I64 x:=by
    obtain⟨x',e,rfl,hwf⟩:=Maps.keyOf_int_inv und_int hkey;simp only[Value.int.injEq,true_and] at e;subst e;exact⟨rfl,wf_bounds hwf⟩
   obtain⟨rfl,hI⟩:=hx;have hh1:Maps.has D (key x)=true:=has_true_of_atKey hat;rw[hhas x hI] at hh1;have hbx:=hbd x (fun e=>by rw[e] at hh1;cases hh1);obtain⟨x,rfl⟩:∃ n:Nat,x=(n:Int):=⟨x.toNat,by omega⟩;have hx:x<65536:=by omega
   rw[show Value.int .i64 (x:Int)=nk x from rfl] at hen ⊢;have hJ2:J ss w2:=hJ ss wr w2 (some W.heap.size) hJs hg2 (fun r e=>by cases e;exact⟨Nat.le_refl _,hrg.iter_walk⟩);obtain⟨fn,tmps,assign,body,hy,hR⟩:=hY ss x w2 hJ2 (by omega);clear hs2
   gi_wp2
   refine hR.mono ?_;have hC2:=hC.step hx hlk hat;rintro e W3 (⟨rfl,hJ3,hk3⟩|⟨rfl,hJx3⟩)
   ·gi_wp2
    have hrg3:=hrg2.of_walks hk3;go_roundw
    case rel=>exact⟨_,cnt2,ss ++ [x],hrg3,by simp;omega,hC2,hJ3⟩
    case measure=>rw[hrg3.left_eq,hrg.left_eq];exact hlt
   ·gi_wp2
    refine bodyPost_ret (results_none rfl _ _ _) rfl ?_;exact⟨⟨_,rfl⟩,.inr ⟨ss ++ [x],trivial,hJx3⟩⟩
theorem keys_seq (F:Fence) (n:Nat) (hf:F.fn 104) (hro:F.round=none) (hn:1<=n) (Bm b:Nat) (M:Int->Option Nat) (w:World) (hBm:Bm<w.heap.size) (hb:b<w.heap.size)
 (hm:w.cell? ⟨Bm,0,none⟩=some (.map (some b))) (hMB:MB w b M) :
 SeqStopsK F n prog 104 #[.pointer (some ⟨Bm,0,none⟩)] (fun x=>#[nk x]) KeepsWalks (Nums M) (fun _=>True) 65536 w:=fun l J Jx W hW hJ _ hY h0=>by
 obtain⟨D,hown,hhas,hat⟩:=hMB.ex;have hsz:Maps.size D<=65536:=by
  obtain⟨ss,hN,hL⟩:=own_nums hown hhas hMB.bound;rw[<-hL];exact nodup_le 65536 ss hN.1 fun x hx=>by have:=hMB.bound x ((hN.2 x).1 hx);omega
 have hown':W.ownsMap prog 3 PR b (Maps.size D) D:=by
  obtain⟨es,clock,hb',Ft,hs,hD⟩:=hown;exact⟨es,clock,(hW.block b hb).trans hb',Ft,hs,hD⟩
 exact keys1_in F n hf hro hn l Bm b 65536 M J Jx D hsz hY W hJ ((hW.cell (p:=⟨Bm,0,none⟩) hBm).trans hm) hown' hhas hMB.bound h0
theorem Keys_any (b:Nat)(w:World) :
 Calls prog 55 #[.map (some b)] w fun e w'=>e=.returned (.func (.func 104) #[] #[.pointer (some ⟨w.heap.size,0,none⟩)])/\w'=w.alloc (.cells #[.map (some b)] 78):=by
 go_enter func55,ntmps55
 go_wp2
 go_ret
 exact⟨rfl,rfl⟩
end IS
attribute [local go_sem] Oper.semAt_some
namespace IS
theorem one_int:(prog.info? 3).map (fun i=>(i.zero,i.size,i.bytes))=some (some (.int .i64 0),1,8):=by kernel_rfl
theorem und_nums:prog.underlying 57=some (.slice 3):=by kernel_rfl
theorem append_in (F:Fence) (n:Nat) (hf:F.fn 147) (hro:F.round=none) (hn:2<=n) (g:Nat) (lb:Array Value) (hg:F.fn g) (eg:∀ args w,(callFunc g args).run prog w=.ok (.enter g args) w)
 (S:List Nat->Prop) (N:Nat) (hN:N<=65536) (w:World) (hseq:SeqStopsK F (n-1) prog g lb (fun x=>#[nk x]) KeepsWalks S (fun _=>True) N w) :
 CallsIn F n prog 147 #[.slice none 0 0,.func (.func g) #[] lb] w fun e w'=>∃ (v:Value) (ss:List Nat),e=.returned v/\S ss/\w'.ownsRow w.heap.size 3 1 v ss.length (ss.map nk)/\(v=.slice none 0 0↔ss=[])/\Below w.heap.size w w':=by
 have h1:1<=n:=by omega
 obtain⟨i0,hi,hz0,hz1,hz2⟩:=info_parts one_int;refine callsIn_of_wp_marks func147 rfl hf ?_ hro;simp only[ntmps147,List.size_toArray,List.length_cons,List.length_nil,Nat.reduceAdd,Nat.reduceSub,Array.replicate_succ,Array.replicate_zero,List.push_toArray,List.append_toArray,List.nil_append,List.cons_append]
 gi_wp2
 have bO:=Boxed.new w 57 (.slice none 0 0);have hB0:Below w.heap.size w (w.alloc (.cells #[.slice none 0 0] 57)):=(Below.refl _ w).alloc (Nat.le_refl _) _;refine wpIn_rangeFunc_ownG hro h1 (gf:=g) (lb:=lb) rfl hg eg
  hseq walksK_t walksK_b hB0 (fun _=>rfl)
  (fun pre W=>(∃ v,Boxed W w.heap.size 57 v/\W.ownsRow w.heap.size 3 1 v pre.length (pre.map nk)/\(v=.slice none 0 0↔pre=[]))/\Below w.heap.size w W)
  (fun _ _ _=>False)
  (OwnFrom.and (Own.from (holdsRow_own w.heap.size w.heap.size 57 3 1 (fun pre:List Nat=>pre.length) (fun pre:List Nat=>pre.map nk) (fun pre v=>v=.slice none 0 0↔pre=[])) _) (ownFrom_below (Nat.le_refl _) (by simp)))
  (fun _ _ _ _ _ hs _ _=>hs)
  ⟨⟨_,bO,World.ownsRow_nil _ _ _ _,by simp⟩,hB0⟩
  (fun x=>{ tmps:=#[.slice none 0 0,.func (.func g) #[] lb,.pointer (some ⟨w.heap.size,0,none⟩),undef,.slice none 0 0,.int .i64 (x:Int),.func (.func g) #[] lb,.int .i64 (x:Int),undef,undef,undef,undef,undef],defers:=[] }) ?assign ?body ?done ?stop
 case assign=>
  intro l x W K hK
  gi_wp2
  exact hK
 case body=>
  rintro l pre x W ⟨⟨v,hv,hrow,hnil⟩,hB⟩ hlt;have hc:=hv.cell
  gi_wp2_with (gi_at_builtin;refine wpListIn_append_own _ rfl _ _ 57 rfl w.heap.size 3 i0 (.int .i64 0) 1 8 und_nums hi hz0 hz1 hz2 rfl (by decide) _ _ _ rfl (hrow.alloc _) ⟨W.heap.size,0,none⟩ 1 1 [.int .i64 (x:Int)] rfl rfl (cell_one_new _ _ _) (by simp[Value.oneCell',nk]) (by simp only[maxLen];omega) (by omega) (by have:=hB.size;simp;omega) ?_;intro v' w1 hown' hgrow _;obtain⟨g',cap',rfl⟩:=ownsRow_succ hown';obtain⟨hv1,hv2,hr2,hk2,hb2⟩:=hv.appended (by decide) hrow hB.size (Nat.le_refl _) hown' hgrow;have hc1:=hv1.cell;have hf1:=hv1.frozen)
  exact⟨hk2.from _,hk2.walks,⟨_,hv2,by simpa[nk] using hr2,by simp⟩,hB.trans hb2⟩
 case done=>
  rintro D ys W hD hS ⟨⟨v,hv,hrow,hnil⟩,hB⟩ hK;have hc:=hv.cell;have hf:=hv.frozen
  gi_wp2
  refine⟨by simp,.inl ⟨_,_,rfl,run_takeDeferred hK,?_⟩⟩;exact⟨_,results_tmp rfl _ _ _,v,ys,rfl,hS,ownsRow_putObj hrow _ hK rfl,hnil,hB.trans (belowK_b (w:=w) (Nat.le_refl _) W D _ _ (by simp at hD;omega) hK rfl rfl)⟩
 case stop=>
  rintro D c pre W _ _ h _;exact h.elim
theorem collect_in (F:Fence) (n:Nat) (h8:F.fn 102) (hf:F.fn 147) (hro:F.round=none) (hn:3<=n) (g:Nat) (lb:Array Value) (hg:F.fn g) (eg:∀ args w,(callFunc g args).run prog w=.ok (.enter g args) w)
 (S:List Nat->Prop) (N:Nat) (hN:N<=65536) (w:World) (hseq:SeqStopsK F (n-1-1) prog g lb (fun x=>#[nk x]) KeepsWalks S (fun _=>True) N w) :
 CallsIn F n prog 102 #[.func (.func g) #[] lb] w fun e w'=>∃ (v:Value) (ss:List Nat),e=.returned v/\S ss/\w'.ownsRow w.heap.size 3 1 v ss.length (ss.map nk)/\(v=.slice none 0 0↔ss=[])/\Below w.heap.size w w':=by
 have h1:1<=n:=by omega
 refine callsIn_of_wp func102 rfl h8 ?_ hro;simp only[ntmps102,List.size_toArray,List.length_cons,List.length_nil,Nat.reduceAdd,Nat.reduceSub,Array.replicate_succ,Array.replicate_zero,List.push_toArray,List.append_toArray,List.nil_append,List.cons_append]
 gi_wp2_with (gi_at_call 147;refine (append_in F (n-1) hf hro (by omega) g lb hg eg S N hN _ hseq).mono ?_;rintro e w' ⟨v,ss,rfl,hS,hrow,hnil,hb⟩)
 go_ret
 exact⟨v,ss,rfl,hS,hrow,hnil,hb⟩
theorem enters_keys1:∀ args w,(callFunc 104 args).run prog w=.ok (.enter 104 args) w:=
 enters_of func104 (by kernel_rfl) rfl
theorem Collect_any (Bm b:Nat)(M:Int->Option Nat)(w:World)(hBm:Bm<w.heap.size)(hb:b<w.heap.size)(hm:w.cell? ⟨Bm,0,none⟩=some (.map (some b)))(hMB:MB w b M) :
 Calls prog 102 #[.func (.func 104) #[] #[.pointer (some ⟨Bm,0,none⟩)]] w fun e w'=>∃ (v:Value) (ss:List Nat),e=.returned v/\Nums M ss/\w'.ownsRow w.heap.size 3 1 v ss.length (ss.map nk)/\(v=.slice none 0 0↔ss=[])/\Below w.heap.size w w':=by
 refine (callsIn_wide (n:=6)).1 ?_;exact collect_in Fence.wide 6 trivial trivial rfl (by omega) _ _ trivial enters_keys1 (Nums M) 65536 (Nat.le_refl _) w (keys_seq Fence.wide 4 trivial rfl (by omega) Bm b M w hBm hb hm hMB)
end IS
end Go.Proofs.YtfffibepcdlldaaGreat

namespace Go.Proofs
open Go.Shelf
def Tryz.sort103_ren:Go.Shelf.Ren:=⟨fun|5=>103|8=>149|7=>148|19=>184|20=>185|10=>175|11=>176|12=>177|13=>178|14=>179|15=>180|16=>181|17=>182|18=>183|30=>190|31=>191|32=>192|33=>193|34=>194|35=>195|40=>196|n=>n,fun|23=>57|25=>3|3=>3|32=>205|22=>57|0=>0|44=>232|46=>234|4=>4|36=>224|35=>223|41=>229|5=>5|9=>9|53=>237|57=>241|63=>244|64=>245|n=>n,fun|n=>n⟩
theorem Tryz.sort103:Go.Proofs.SlLaysM.n5 Tryz.prog Tryz.sort103_ren:={
 mixed:=by kernel_rfl
 f5:=⟨Tryz.f103.name,by decide,Tryz.func103.trans (congrArg some (by kernel_rfl))⟩
 f7:=⟨Tryz.f148.name,by decide,Tryz.func148.trans (congrArg some (by kernel_rfl))⟩
 f8:=Tryz.func149.trans (congrArg some (by kernel_rfl))
 f10:=⟨Tryz.f175.name,by decide,Tryz.func175.trans (congrArg some (by kernel_rfl))⟩
 f11:=⟨Tryz.f176.name,by decide,Tryz.func176.trans (congrArg some (by kernel_rfl))⟩
 f12:=⟨Tryz.f177.name,by decide,Tryz.func177.trans (congrArg some (by kernel_rfl))⟩
 f13:=⟨Tryz.f178.name,by decide,Tryz.func178.trans (congrArg some (by kernel_rfl))⟩
 f14:=⟨Tryz.f179.name,by decide,Tryz.func179.trans (congrArg some (by kernel_rfl))⟩
 f15:=⟨Tryz.f180.name,by decide,Tryz.func180.trans (congrArg some (by kernel_rfl))⟩
 f16:=⟨Tryz.f181.name,by decide,Tryz.func181.trans (congrArg some (by kernel_rfl))⟩
 f17:=⟨Tryz.f182.name,by decide,Tryz.func182.trans (congrArg some (by kernel_rfl))⟩
 f18:=⟨Tryz.f183.name,by decide,Tryz.func183.trans (congrArg some (by kernel_rfl))⟩
 f19:=Tryz.func184.trans (congrArg some (by kernel_rfl))
 f20:=Tryz.func185.trans (congrArg some (by kernel_rfl))
 f30:=⟨Tryz.f190.name,by decide,Tryz.func190.trans (congrArg some (by kernel_rfl))⟩
 f31:=Tryz.func191.trans (congrArg some (by kernel_rfl))
 f32:=Tryz.func192.trans (congrArg some (by kernel_rfl))
 f33:=⟨Tryz.f193.name,by decide,Tryz.func193.trans (congrArg some (by kernel_rfl))⟩
 f34:=⟨Tryz.f194.name,by decide,Tryz.func194.trans (congrArg some (by kernel_rfl))⟩
 f35:=⟨Tryz.f195.name,by decide,Tryz.func195.trans (congrArg some (by kernel_rfl))⟩
 f40:=⟨Tryz.f196.name,by decide,Tryz.func196.trans (congrArg some (by kernel_rfl))⟩
 t0:=Tryz.underlying0
 a0:=Tryz.isAgg0
 z0:=Tryz.sizeOf0
 v0:=Tryz.zeroValue0
 t3:=Tryz.underlying3
 a3:=Tryz.isAgg3
 z3:=Tryz.sizeOf3
 v3:=Tryz.zeroValue3
 t4:=Tryz.underlying4
 a4:=Tryz.isAgg4
 z4:=Tryz.sizeOf4
 v4:=Tryz.zeroValue4
 t5:=Tryz.underlying5
 a5:=Tryz.isAgg5
 z5:=Tryz.sizeOf5
 v5:=Tryz.zeroValue5
 t9:=Tryz.underlying9
 a9:=Tryz.isAgg9
 z9:=Tryz.sizeOf9
 v9:=Tryz.zeroValue9
 t22:=Tryz.underlying57
 a22:=Tryz.isAgg57
 z22:=Tryz.sizeOf57
 v22:=Tryz.zeroValue57
 t23:=Tryz.underlying57
 a23:=Tryz.isAgg57
 z23:=Tryz.sizeOf57
 v23:=Tryz.zeroValue57
 t25:=Tryz.underlying3
 a25:=Tryz.isAgg3
 z25:=Tryz.sizeOf3
 v25:=Tryz.zeroValue3
 t32:=Tryz.underlying205
 a32:=Tryz.isAgg205
 z32:=Tryz.sizeOf205
 v32:=Tryz.zeroValue205
 t35:=Tryz.underlying223
 a35:=Tryz.isAgg223
 z35:=Tryz.sizeOf223
 v35:=Tryz.zeroValue223
 t36:=Tryz.underlying224
 a36:=Tryz.isAgg224
 z36:=Tryz.sizeOf224
 v36:=Tryz.zeroValue224
 t41:=Tryz.underlying229
 a41:=Tryz.isAgg229
 z41:=Tryz.sizeOf229
 v41:=Tryz.zeroValue229
 t44:=Tryz.underlying232
 a44:=Tryz.isAgg232
 z44:=Tryz.sizeOf232
 v44:=Tryz.zeroValue232
 t46:=Tryz.underlying234
 a46:=Tryz.isAgg234
 z46:=Tryz.sizeOf234
 v46:=Tryz.zeroValue234
 t53:=Tryz.underlying237
 a53:=Tryz.isAgg237
 z53:=Tryz.sizeOf237
 v53:=Tryz.zeroValue237
 t57:=Tryz.underlying241
 a57:=Tryz.isAgg241
 z57:=Tryz.sizeOf241
 v57:=Tryz.zeroValue241
 t63:=Tryz.underlying244
 a63:=Tryz.isAgg244
 z63:=Tryz.sizeOf244
 v63:=Tryz.zeroValue244
 t64:=Tryz.underlying245
 a64:=Tryz.isAgg245
 z64:=Tryz.sizeOf245
 v64:=Tryz.zeroValue245 }
end Go.Proofs

namespace Go.Proofs.YtfffibepcdlldaaGreat
open Go.ChangeShapes Go.WideShapes Go.ChangeAt Go.RowKit
namespace IS
def LC (base:Nat)(w:World)(v:Value)(l:List Nat):Prop:=∃ ao cap,v=.slice ao l.length cap/\∀ i (hi:i<l.length),∃ blk off,ao=some ⟨blk,off,none⟩/\base<=blk/\blk<w.heap.size/\w.cell? ⟨blk,off+i,none⟩=some (.int .i64 (l[i]:Int))
theorem merge_rise {ss ks:List Nat}(hs:ss.Nodup)(hr:ks.Pairwise (· < ·))(hm:∀ x,x∈ss↔x∈ks):(ss.map fun (n:Nat)=>(n:Int)).mergeSort (fun x y=>decide (x<=y))=ks.map fun (n:Nat)=>(n:Int):=by
 have hp:ss.Perm ks:=by
  rw[List.perm_ext_iff_of_nodup hs (hr.imp fun {a b} h=>by omega)];exact hm
 have h1:=List.mergeSort_of_pairwise (le:=fun (x y:Int)=>decide (x<=y)) (l:=ks.map fun (n:Nat)=>(n:Int)) (by
  rw[List.pairwise_map];exact hr.imp fun {a b} h=>by simp only[decide_eq_true_eq];omega)
 rw[<-h1];refine List.Perm.eq_of_pairwise (le:=fun (x y:Int)=>x<=y) (fun a b _ _ h1 h2=>by omega) ?_ ?_ ?_
 ·exact (List.pairwise_mergeSort (le:=fun (x y:Int)=>decide (x<=y)) (fun a b c h1 h2=>by simp only[decide_eq_true_eq] at *;omega) (fun a b=>by simp only[Bool.or_eq_true,decide_eq_true_eq];omega) _).imp fun {a b} h=>by simpa using h
 ·exact (List.pairwise_mergeSort (le:=fun (x y:Int)=>decide (x<=y)) (fun a b c h1 h2=>by simp only[decide_eq_true_eq] at *;omega) (fun a b=>by simp only[Bool.or_eq_true,decide_eq_true_eq];omega) _).imp fun {a b} h=>by simpa using h
 ·exact (List.mergeSort_perm _ _).trans ((hp.map _).trans (List.mergeSort_perm _ _).symm)
theorem Sorted_of (fv:Value)(M:Int->Option Nat)(w:World)(cC:Calls prog 102 #[fv] w fun e w'=>∃ (v:Value) (ss:List Nat),e=.returned v/\Nums M ss/\w'.ownsRow w.heap.size 3 1 v ss.length (ss.map nk)/\(v=.slice none 0 0↔ss=[])/\Below w.heap.size w w')(ks:List Nat)(hk:Nums M ks)(hr:ks.Pairwise (· < ·))(hlen:ks.length<65536) :
 Calls prog 54 #[fv] w fun e w'=>∃ v,e=.returned v/\LC w.heap.size w' v ks/\Below w.heap.size w w':=by
 have cC:=Wd cC;have hk:=Wd hk;have hr:=Wd hr;go_enter func54,ntmps54
 go_wp2_with fail
 refine cC.out.mono ?_;rintro e w1 ⟨v,ss,rfl,hN,hown,hnil,hB⟩;have hl:=hN.len_eq hk.out;have hms:=merge_rise hN.1 hr.out (fun x=>by rw[hN.2 x,hk.out.2 x]);rcases hown.2 with ⟨rfl,h0⟩|⟨g,cap,cur,rfl,hbase,hg,h1,h2,h3,h4⟩
 ·have hks:ks=[]:=List.eq_nil_of_length_eq_zero (by omega);have cS:=AnyM.slices_Sort_int_none Tryz.sort103 none 0 w1
  change Calls prog 103 _ _ _ at cS
  replace cS:=Wd cS;have hB:=Wd hB;subst hks;clear hN hown hnil hl hms h0;go_wp2_with fail
  refine cS.out.mono ?_;rintro e w2 ⟨rfl,rfl⟩;go_wp2_with fail
  go_ret
  exact⟨_,rfl,⟨none,0,rfl,fun i hi=>by simp at hi⟩,hB.out⟩
 ·have hlt:g<w1.heap.size:=(Array.getElem?_eq_some_iff.1 hg).1;have hcur:cur.toList.take (ss.map fun (n:Nat)=>(n:Int)).length=(ss.map fun (n:Nat)=>(n:Int)).map encZ:=by
   rw[List.length_map,List.map_map];rw[Nat.mul_one] at h4;exact h4
  have cS:=AnyM.slices_Sort_int Tryz.sort103 g 0 cap (ss.map fun (n:Nat)=>(n:Int)) w1 (holds_of_block_i hg hcur) hlt (by rw[List.length_map];omega);rw[List.length_map] at cS
  change Calls prog 103 _ _ _ at cS
  have hfin:=Wd (fun (n:Nat) (os:Array Obj)=>And.intro (ownsRow_sorted_i (n:=n) (os:=os) (ss:=ss.map fun (n:Nat)=>(n:Int)) (ts:=(ss.map fun (n:Nat)=>(n:Int)).mergeSort fun x y=>decide (x<=y)) (by simp) hbase hg (by rw[List.length_map];exact h1) h2 h3) (grownBy_sorted_i (w:=w1) (g:=g) (n:=n) (os:=os) ((ss.map fun (n:Nat)=>(n:Int)).mergeSort fun x y=>decide (x<=y)).toArray));rw[hms] at cS;rw[hms] at hfin;have cS:=Wd cS;have hB:=Wd hB;have hls:=Wd hl;have hbs:=Wd hbase;clear hN hown hnil hms hcur hg h1 h2 h3 h4 hl hbase;go_wp2_with fail
  refine cS.out.mono ?_;rintro e w2 ⟨rfl,n,os,hw2⟩;obtain⟨f1,f2⟩:=hfin.out n os;rw[List.length_map,<-hw2] at f1;rw[<-hw2] at f2;clear hw2;have f1:=Wd f1;have f2:=Wd f2;go_wp2_with fail
  go_ret
  refine⟨_,rfl,⟨some ⟨g,0,none⟩,cap,(by rw[hls.out];rfl),fun i hi=>?_⟩,hB.out.grown f2.out hB.out.size (fun j hj=>by cases hj;exact hbs.out)⟩;have hc:=f1.out.cells (g:=g) rfl i (.int .i64 (ks[i]:Int)) (by
   rw[List.getElem?_map,List.getElem?_map,List.getElem?_eq_getElem hi];rfl)
  rw[Addr.add_lit] at hc;exact⟨g,0,rfl,hbs.out,cell_lt hc,hc⟩
end IS
end Go.Proofs.YtfffibepcdlldaaGreat
