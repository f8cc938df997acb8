/- A part. -/
import Derived.Test.YtfffibepcdlldaaGreatZA01
import Derived.Test.YtfffibepcdlldaaGreatZA03
set_option linter.unusedVariables false
set_option linter.unusedSimpArgs false
set_option maxRecDepth 100000
set_option maxHeartbeats 64000000
open Go.Proofs.Tryz

namespace Go.Proofs.YtfffibepcdlldaaGreat
namespace PM
def str (l:List UInt8):ByteArray:=⟨l.toArray⟩
theorem str_list (l:List UInt8):(str l).data.toList=l:=by simp[str]
theorem str_of (s:ByteArray):str s.data.toList=s:=by simp[str]
theorem str_size (l:List UInt8):(str l).size=l.length:=by simp[str,ByteArray.size]
theorem list_size (s:ByteArray):s.data.toList.length=s.size:=Array.length_toList
def has (s:ByteArray)(v:Nat):Bool:=s.data.toList.any fun c=>c.toNat == v
def comp (s:ByteArray):Bool:=decide (1<=s.size) && decide (s.size<=32) && !has s 47 && !has s 0
def dot:ByteArray:=⟨#[46]⟩
def dots:ByteArray:=⟨#[46,46]⟩
def name (s:ByteArray):Bool:=comp s && decide (s≠dot) && decide (s≠dots)
def tot (l:List ByteArray):Nat:=(l.map fun s=>s.size+1).sum
def plen (a:Bool)(l:List ByteArray)(d:Bool):Nat:=(tot l-1)+(if a then 1 else 0)+(if d && decide (0<l.length) then 1 else 0)
def valid (a:Bool)(l:List ByteArray)(d:Bool):Bool:=if l=[] then a && d else l.all comp && decide (plen a l d<=256)
def behind:List ByteArray->List UInt8
 | []=>[]
 | x :: r=>47 :: (x.data.toList ++ behind r)
def body:List ByteArray->List UInt8
 | []=>[]
 | x :: r=>x.data.toList ++ behind r
def emit (cur:List UInt8)(acc:List ByteArray):List ByteArray:=if cur=[] then acc else acc ++ [str cur]
def split:List UInt8->List ByteArray->List UInt8->Option (List ByteArray)
 | cur,acc,[]=>if 32<cur.length then none else some (emit cur acc)
 | cur,acc,c :: r=>if c.toNat=47 then (if 32<cur.length then none else split [] (emit cur acc) r) else split (cur ++ [c]) acc r
def names (s:ByteArray):List ByteArray:=(split [] [] s.data.toList).getD []
def perr (s:ByteArray):Int:=if s.size=0 then 11 else if 256<s.size then 17 else if has s 0 then 2 else if (split [] [] s.data.toList).isNone then 17 else 0
def first (s:ByteArray):Bool:=s.data.toList.head?.any fun c=>c.toNat == 47
def last (s:ByteArray):Bool:=s.data.toList.getLast?.any fun c=>c.toNat == 47
def pA (s:ByteArray):Bool:=if perr s=0 then first s else false
def pD (s:ByteArray):Bool:=if perr s=0 then last s else false
def pN (s:ByteArray):List ByteArray:=if perr s=0 then names s else []
def step (a:Bool)(out:List ByteArray)(x:ByteArray):List ByteArray:=
 if x=dot then out
 else if x=dots/\out≠[]/\out.getLast?≠some dots then out.dropLast
 else if x=dots/\out=[]/\a=true then out
 else out ++ [x]
theorem tot_nil:tot []=0:=rfl
theorem tot_cons (x:ByteArray)(l:List ByteArray):tot (x :: l)=x.size+1+tot l:=by simp[tot]
theorem tot_append (a b:List ByteArray):tot (a ++ b)=tot a+tot b:=by simp[tot]
theorem tot_snoc (a:List ByteArray)(x:ByteArray):tot (a ++ [x])=tot a+(x.size+1):=by rw[tot_append];simp[tot]
theorem tot_pos (l:List ByteArray)(h:l≠[]):1<=tot l:=by
 cases l with
 | nil=>exact absurd rfl h
 | cons x r=>rw[tot_cons];omega
theorem tot_len (l:List ByteArray):l.length<=tot l:=by
 induction l with
 | nil=>simp[tot]
 | cons x r ih=>rw[tot_cons,List.length_cons];omega
theorem comp_iff (s:ByteArray):comp s=true↔(1<=s.size/\s.size<=32)/\(∀ c∈s.data.toList,c.toNat≠47)/\∀ c∈s.data.toList,c.toNat≠0:=by
 simp only[comp,has,Bool.and_eq_true,decide_eq_true_eq,Bool.not_eq_true',List.any_eq_false,beq_iff_eq]
 constructor
 ·rintro ⟨⟨h1,h2⟩,h3⟩;exact⟨h1,h2,h3⟩
 ·rintro ⟨h1,h2,h3⟩;exact⟨⟨h1,h2⟩,h3⟩
theorem dot_ne:dot≠dots:=by decide
theorem emit_nil (acc:List ByteArray):emit [] acc=acc:=by simp[emit]
theorem emit_tot (cur:List UInt8)(acc:List ByteArray):tot (emit cur acc)=tot acc+(if cur=[] then 0 else cur.length+1):=by
 unfold emit
 by_cases h:cur=[]
 ·simp[h]
 ·rw[if_neg h,if_neg h,tot_snoc,str_size]
def fresh (l:List UInt8):Bool:=l.getLast?.all fun c=>c.toNat == 47
theorem fresh_mid (a:List UInt8)(c:UInt8)(r:List UInt8)(h:r≠[]):fresh (a ++ c :: r)=fresh r:=by
 unfold fresh;rw[List.getLast?_append];obtain⟨y,r',rfl⟩:=List.exists_cons_of_ne_nil h;rw[List.getLast?_cons_cons]
 cases h2:(y :: r').getLast? with
 | none=>simp at h2
 | some z=>simp
theorem split_tot:∀ (r cur:List UInt8) (acc l:List ByteArray),(∀ c∈cur,c.toNat≠47)->split cur acc r=some l->tot l<=tot acc+(cur ++ r).length+(if fresh (cur ++ r) then 0 else 1)
 | [],cur,acc,l,hc,h=>by
   simp only[split] at h
   split at h
   ·cases h
   ·obtain rfl:=Option.some.inj h;rw[emit_tot,List.append_nil]
    by_cases h0:cur=[]
    ·simp[h0]
    ·rw[if_neg h0];have hf:fresh cur=false:=by
      unfold fresh;rw[List.getLast?_eq_some_getLast h0];simp only[Option.all_some,beq_eq_false_iff_ne,ne_eq];exact hc _ (List.getLast_mem h0)
     rw[hf];simp;omega
 | c :: r,cur,acc,l,hc,h=>by
   simp only[split] at h
   split at h
   ·rename_i h47
    split at h
    ·cases h
    ·have ih:=split_tot r [] (emit cur acc) l (by simp) h;rw[emit_tot] at ih;simp only[List.nil_append] at ih;have hf:(if fresh r then 0 else 1)<=(if fresh (cur ++ c :: r) then 0 else 1):=by
      by_cases hr:r=[]
      ·subst hr;simp[fresh]
      ·rw[fresh_mid _ _ _ hr];exact Nat.le_refl _
     simp only[List.length_append,List.length_cons]
     split at ih <;> omega
   ·rename_i h47
    have ih:=split_tot r (cur ++ [c]) acc l (by
     intro x hx;rcases List.mem_append.1 hx with h1|h1
     ·exact hc x h1
     ·simp at h1;subst h1;exact h47) h
    simpa using ih
theorem split_pre:∀ (r cur:List UInt8) (acc l:List ByteArray),split cur acc r=some l->∃ m,l=acc ++ m/\(cur≠[]->m≠[])
 | [],cur,acc,l,h=>by
   simp only[split] at h
   split at h
   ·cases h
   ·obtain rfl:=Option.some.inj h;unfold emit
    split
    ·rename_i h0;exact⟨[],by simp,fun h=>absurd h0 h⟩
    ·exact⟨[str cur],rfl,fun _=>by simp⟩
 | c :: r,cur,acc,l,h=>by
   simp only[split] at h
   split at h
   ·split at h
    ·cases h
    ·obtain⟨m,rfl,-⟩:=split_pre r [] (emit cur acc) l h;unfold emit
     split
     ·rename_i h0;exact⟨m,rfl,fun h=>absurd h0 h⟩
     ·exact⟨str cur :: m,by simp,fun _=>by simp⟩
   ·obtain⟨m,rfl,hm⟩:=split_pre r (cur ++ [c]) acc l h;exact⟨m,rfl,fun _=>hm (by simp)⟩
theorem split_empty:∀ (r:List UInt8),split [] [] r=some []->∀ c∈r,c.toNat=47
 | [],_,c,hc=>by simp at hc
 | c :: r,h,x,hx=>by
   simp only[split,emit_nil] at h
   split at h
   ·rename_i h47
    rw[if_neg (by simp)] at h;rcases List.mem_cons.1 hx with rfl|hx
    ·exact h47
    ·exact split_empty r h x hx
   ·obtain⟨m,hm,hne⟩:=split_pre r _ [] [] h;have:m=[]:=by simpa using hm.symm
    exact absurd this (hne (by simp))
theorem split_comp:∀ (r cur:List UInt8) (acc l:List ByteArray),(∀ c∈cur,c.toNat≠47)->(∀ c∈cur ++ r,c.toNat≠0)->(∀ x∈acc,comp x=true)->split cur acc r=some l->∀ x∈l,comp x=true:=by
 have hem:∀ (cur:List UInt8) (acc:List ByteArray),¬ 32<cur.length->(∀ c∈cur,c.toNat≠47)->(∀ c∈cur,c.toNat≠0)->(∀ x∈acc,comp x=true)->∀ x∈emit cur acc,comp x=true:=by
  intro cur acc h32 h1 h2 h3 x hx;unfold emit at hx
  split at hx
  ·exact h3 x hx
  ·rename_i h0
   rcases List.mem_append.1 hx with hx|hx
   ·exact h3 x hx
   ·obtain rfl:x=str cur:=by simpa using hx
    rw[comp_iff,str_list,str_size];have:cur.length≠0:=fun h=>h0 (List.eq_nil_of_length_eq_zero h);exact⟨⟨by omega,by omega⟩,h1,h2⟩
 intro r
 induction r with
 | nil=>
   intro cur acc l h1 h2 h3 h;simp only[split] at h
   split at h
   ·cases h
   ·rename_i h32
    obtain rfl:=Option.some.inj h;exact hem cur acc h32 h1 (by simpa using h2) h3
 | cons c r ih=>
   intro cur acc l h1 h2 h3 h;simp only[split] at h
   split at h
   ·split at h
    ·cases h
    ·rename_i h32
     exact ih [] (emit cur acc) l (by simp) (fun x hx=>h2 x (by simp only[List.nil_append] at hx;simp[hx])) (hem cur acc h32 h1 (fun x hx=>h2 x (by simp[hx])) h3) h
   ·rename_i h47
    refine ih (cur ++ [c]) acc l ?_ (by simpa using h2) h3 h;intro x hx;rcases List.mem_append.1 hx with hx|hx
    ·exact h1 x hx
    ·obtain rfl:x=c:=by simpa using hx
     exact h47
theorem take_snoc (l:List ByteArray)(k:Nat)(h:k<l.length):l.take (k+1)=l.take k ++ [l[k]]:=List.take_succ_eq_append_getElem h
theorem valid_some {a d:Bool}{l:List ByteArray}(h:valid a l d=true)(hl:l≠[]):(∀ x∈l,comp x=true)/\plen a l d<=256:=by
 unfold valid at h;rw[if_neg hl] at h;simp only[Bool.and_eq_true,decide_eq_true_eq,List.all_eq_true] at h;exact h
theorem valid_comp {a d:Bool}{l:List ByteArray}(h:valid a l d=true):∀ x∈l,comp x=true:=by
 by_cases hl:l=[]
 ·subst hl;simp
 ·exact (valid_some h hl).1
theorem valid_len {a d:Bool}{l:List ByteArray}(h:valid a l d=true):plen a l d<=256:=by
 by_cases hl:l=[]
 ·subst hl;unfold plen;simp[tot];cases a <;> simp
 ·exact (valid_some h hl).2
theorem valid_tot {a d:Bool}{l:List ByteArray}(h:valid a l d=true):tot l<=257:=by
 have:=valid_len h;unfold plen at this;omega
theorem valid_count {a d:Bool}{l:List ByteArray}(h:valid a l d=true):l.length<=257:=Nat.le_trans (tot_len l) (valid_tot h)
theorem parse_valid {s:ByteArray}(h:perr s=0):valid (pA s) (pN s) (pD s)=true/\plen (pA s) (pN s) (pD s)<=s.size:=by
 have hE:=h;unfold perr at h
 split at h
 ·cases h
 split at h
 ·cases h
 split at h
 ·cases h
 split at h
 ·cases h
 rename_i h0 h256 hz hs
 obtain⟨l,hl⟩:∃ l,split [] [] s.data.toList=some l:=by
  cases hx:split [] [] s.data.toList with
  | none=>rw[hx] at hs;simp at hs
  | some l=>exact⟨l,rfl⟩
 have hN:pN s=l:=by unfold pN names;rw[if_pos hE,hl];rfl
 have hA:pA s=first s:=by unfold pA;rw[if_pos hE]
 have hD:pD s=PM.last s:=by unfold pD;rw[if_pos hE]
 rw[hN,hA,hD];have hsz:=list_size s;have hz':∀ c∈s.data.toList,c.toNat≠0:=by
  simp only[has,Bool.not_eq_true,List.any_eq_false,beq_iff_eq] at hz;exact hz
 have hcomp:∀ x∈l,comp x=true:=split_comp s.data.toList [] [] l (by simp) (by simpa using hz') (by simp) hl;obtain⟨c,r,hcr⟩:∃ c r,s.data.toList=c :: r:=by
  cases hx:s.data.toList with
  | nil=>rw[hx] at hsz;simp at hsz;omega
  | cons c r=>exact⟨c,r,rfl⟩
 have hfirst:first s=(c.toNat == 47):=by unfold first;rw[hcr];rfl
 have hfresh:fresh s.data.toList=PM.last s:=by
  unfold fresh PM.last;rw[hcr]
  cases hx:(c :: r).getLast? with
  | none=>simp at hx
  | some z=>rfl
 have hbound:l≠[]->plen (first s) l (PM.last s)<=s.size:=by
  intro hne;have htp:=tot_pos l hne;have hlp:0<l.length:=by cases l with
   | nil=>exact absurd rfl hne
   | cons x r=>simp
  unfold plen
  by_cases hc47:c.toNat=47
  ·have h1:split [] [] r=some l:=by
    rw[hcr,split,if_pos hc47,if_neg (by simp),emit_nil] at hl;exact hl
   have h2:=split_tot r [] [] l (by simp) h1;rw[List.nil_append,tot_nil,Nat.zero_add] at h2;have hr:fresh r=true∨fresh r=PM.last s:=by
    by_cases hr:r=[]
    ·subst hr;exact .inl rfl
    ·right
     rw[<-hfresh,hcr];exact (fresh_mid [] c r hr).symm
   rw[hfirst,show (c.toNat == 47)=true from by simpa using hc47];rw[hcr] at hsz;simp only[List.length_cons] at hsz;simp only[if_true];rcases hr with hr|hr
   ·rw[hr] at h2;simp only[if_true] at h2
    split <;> omega
   ·rw[hr] at h2
    cases hd:PM.last s with
    | true=>rw[hd] at h2;simp only[if_true] at h2;split <;> omega
    | false=>rw[hd] at h2;simp at h2 ⊢;omega
  ·rw[hfirst,show (c.toNat == 47)=false from by simpa using hc47];have h2:=split_tot s.data.toList [] [] l (by simp) hl;simp only[List.nil_append,tot_nil,Nat.zero_add,hfresh,hsz] at h2
   cases hd:PM.last s with
   | true=>rw[hd] at h2;simp only[if_true] at h2;simp[hlp];omega
   | false=>rw[hd] at h2;simp at h2 ⊢;omega
 by_cases hne:l=[]
 ·subst hne;have hall:=split_empty _ hl;have h1:first s=true:=by rw[hfirst];simpa using hall c (by rw[hcr];simp)
  have h2:PM.last s=true:=by
   rw[<-hfresh];unfold fresh;rw[hcr]
   cases hx:(c :: r).getLast? with
   | none=>simp at hx
   | some z=>
     have:=hall z (by rw[hcr];exact List.mem_of_getLast? hx);simpa using this
  rw[h1,h2];exact⟨by simp[valid],by simp[plen,tot];omega⟩
 ·refine⟨?_,hbound hne⟩;unfold valid;rw[if_neg hne];simp only[Bool.and_eq_true,decide_eq_true_eq,List.all_eq_true];exact⟨hcomp,by have:=hbound hne;omega⟩
def Shape (a:Bool)(o:List ByteArray):Prop:=∃ k p,o=List.replicate k dots ++ p/\(∀ x∈p,x≠dot/\x≠dots)/\(a=true->k=0)
theorem Shape.nil (a:Bool):Shape a []:=⟨0,[],rfl,by simp,fun _=>rfl⟩
end PM
end Go.Proofs.YtfffibepcdlldaaGreat

namespace Go.Proofs.YtfffibepcdlldaaGreat
open Go.ChangeShapes Go.WideShapes Go.ChangeAt Go.RowKit
theorem byte_get (s:ByteArray)(k:Nat)(h:k<s.size):s.data.toList.drop k=s[k] :: s.data.toList.drop (k+1):=by
 rw[List.drop_eq_getElem_cons (by simpa using h)];rfl
theorem any_take_snoc (s:ByteArray)(f:UInt8->Bool)(k:Nat)(h:k<s.size):(s.data.toList.take (k+1)).any f=((s.data.toList.take k).any f || f s[k]):=by
 rw[List.take_succ_eq_append_getElem (by simpa using h),List.any_append];simp;rfl
theorem has_of {s:ByteArray}{k v:Nat}(h:k<s.size)(e:(s[k].toNat:Int)=v):PM.has s v=true:=by
 unfold PM.has;rw[List.any_eq_true];exact⟨s[k],by simp[ByteArray.getElem_eq_getElem_data],by simpa using (by omega:s[k].toNat=v)⟩
theorem has_none {s:ByteArray}{v:Nat}(h:(s.data.toList.take s.size).any (fun c=>c.toNat == v)=false):PM.has s v=false:=by
 unfold PM.has;rw[List.take_of_length_le (by simp[PM.list_size])] at h;exact h
theorem contains_any (s:ByteArray)(v:Nat)(x:Int)(hx:x=v)(w:World)(hs:s.size<=maxLen) :
 Calls prog 118 #[.string s,.int .u8 x] w fun e w'=>e=.returned (.bool (PM.has s v))/\w=w':=by
 unfold maxLen at hs;have HX:Hid _:=hx;clear hx;go_enter func118,ntmps118
 go_wp2
 go_loop [8] (fun i=>∃ k:Nat,k<=s.size/\i=.int .i64 k/\Hid ((s.data.toList.take k).any (fun c=>c.toNat == v)=false)) (fun i=>s.size-(intOf i).toNat)
 case atStart=>exact⟨0,Nat.zero_le _,rfl,rfl⟩
 case round=>
  obtain⟨k,hk,rfl,hno⟩:=hrel
  by_cases hlt:k<s.size
  ·by_cases he:(s[k].toNat:Int)=x
   ·have hh:Hid (PM.has s v=true):=has_of hlt (he.trans HX.out);have hb:((s[k].toNat:Int) == x)=true:=by simpa using he
    clear he;go_wp2
    go_ret
    exact⟨by rw[hh.out];rfl,rfl⟩
   ·have hb:((s[k].toNat:Int) == x)=false:=by simpa using he
    have hn:Hid ((s.data.toList.take (k+1)).any (fun c=>c.toNat == v)=false):=by
     have h0:=hno.out
     show _=false
     rw[any_take_snoc _ _ _ hlt,h0];have:=HX.out;simp only[Bool.false_or,beq_eq_false_iff_ne,ne_eq]
     omega
    clear he;go_wp2
    go_round
    case rel=>exact⟨k+1,by omega,by go_num,hn⟩
    case measure=>simp[intOf];omega
  ·obtain rfl:k=s.size:=by omega
   have hh:Hid (PM.has s v=false):=has_none hno.out;go_wp2
   go_ret
   exact⟨by rw[hh.out];rfl,rfl⟩
theorem comp_false {s:ByteArray}(h:¬ (1<=s.size/\s.size<=32)∨PM.has s 47=true∨PM.has s 0=true):PM.comp s=false:=by
 unfold PM.comp;rcases h with h|h|h
 ·rcases Nat.lt_or_ge s.size 1 with h1|h1
  ·simp[show ¬ 1<=s.size by omega]
  ·simp[show ¬ s.size<=32 by omega]
 ·rw[h];simp
 ·rw[h];simp
theorem comp_true {s:ByteArray}(h1:1<=s.size)(h2:s.size<=32)(h3:PM.has s 47=false)(h4:PM.has s 0=false):PM.comp s=true:=by
 unfold PM.comp;rw[h3,h4];simp[h1,h2]
theorem empty_facts {s:ByteArray}(h:s.size=0):s.toList=[]/\s.toList.isEmpty=true:=by
 have:s.data.toList=[]:=List.eq_nil_of_length_eq_zero (by rw[PM.list_size];exact h);rw[ByteArray.toList_eq,this];exact⟨rfl,rfl⟩
theorem full_facts {s:ByteArray}(h:s.size≠0):(s.toList=[])=False/\s.toList.isEmpty=false:=by
 have hl:=PM.list_size s;rw[ByteArray.toList_eq]
 cases he:s.data.toList with
 | nil=>rw[he] at hl;exact absurd hl.symm h
 | cons c r=>exact⟨by simp,rfl⟩
theorem component_any (s:ByteArray)(w:World)(hs:s.size<=maxLen) :
 Calls prog 170 #[.string s] w fun e w'=>e=.returned (.bool (PM.comp s))/\w=w':=by
 by_cases h1:s.size=0
 ·have hh:Hid (PM.comp s=false):=comp_false (by omega);obtain⟨e1,e2⟩:=empty_facts h1;clear h1;go_enter func170,ntmps170
  go_wp2_with fail
  go_ret
  exact⟨by rw[hh.out];rfl,rfl⟩
 obtain⟨e1,e2⟩:=full_facts h1
 by_cases h2:s.size<=32
 ·cases h3:PM.has s 47 with
  | true=>
    have hh:Hid (PM.comp s=false):=comp_false (.inr (.inl h3));have H47:Hid (Calls prog 118 #[.string s,.int .u8 47] w fun e w'=>e=.returned (.bool true)/\w=w'):=by
     have:=contains_any s 47 47 rfl w hs;rwa[h3] at this
    clear h3;go_enter func170,ntmps170
    go_wp2_with (go_at_call 118;refine H47.out.mono ?_;rintro e w' ⟨rfl,rfl⟩)
    go_ret
    exact⟨by rw[hh.out];rfl,rfl⟩
  | false=>
    have H47:Hid (Calls prog 118 #[.string s,.int .u8 47] w fun e w'=>e=.returned (.bool false)/\w=w'):=by
     have:=contains_any s 47 47 rfl w hs;rwa[h3] at this
    have hh:Hid (PM.comp s = !PM.has s 0):=by
     cases h4:PM.has s 0 with
     | true=>exact comp_false (.inr (.inr h4))
     | false=>exact comp_true (by omega) h2 h3 h4
    have H0:Hid (Calls prog 118 #[.string s,.int .u8 0] w fun e w'=>e=.returned (.bool (PM.has s 0))/\w=w'):=contains_any s 0 0 rfl w hs;clear h3;go_enter func170,ntmps170
    go_wp2_with fail
    refine H47.out.mono ?_;rintro e w' ⟨rfl,rfl⟩;go_wp2_with fail
    refine H0.out.mono ?_;rintro e w' ⟨rfl,rfl⟩;go_wp2
    go_ret
    exact⟨by rw[hh.out];rfl,rfl⟩
 ·have hh:Hid (PM.comp s=false):=comp_false (by omega);have h2':32<s.size:=by omega
  unfold maxLen at hs;go_enter func170,ntmps170
  go_wp2_with fail
  go_ret
  exact⟨by rw[hh.out];rfl,rfl⟩
theorem list_inj {s t:ByteArray}(h:s.toList=t.toList):s=t:=by
 rw[ByteArray.toList_eq,ByteArray.toList_eq] at h;rw[<-PM.str_of s,<-PM.str_of t,h]
theorem dot_list:PM.dot.toList=[46]:=by rw[ByteArray.toList_eq];rfl
theorem dots_list:PM.dots.toList=[46,46]:=by rw[ByteArray.toList_eq];rfl
theorem dot_yes {s:ByteArray}(h:s=PM.dot):s.toList=[46]:=by rw[h,dot_list]
theorem dots_yes {s:ByteArray}(h:s=PM.dots):s.toList=[46,46]:=by rw[h,dots_list]
theorem dot_no {s:ByteArray}(h:s≠PM.dot):(s.toList=[46])=False/\(s.toList == [46])=false:=by
 have:s.toList≠[46]:=fun e=>h (list_inj (e.trans dot_list.symm));exact⟨by simpa using this,by simpa using this⟩
theorem dots_no {s:ByteArray}(h:s≠PM.dots):(s.toList=[46,46])=False/\(s.toList == [46,46])=false:=by
 have:s.toList≠[46,46]:=fun e=>h (list_inj (e.trans dots_list.symm));exact⟨by simpa using this,by simpa using this⟩
theorem name_no {s:ByteArray}(h:PM.comp s=false∨s=PM.dot∨s=PM.dots):PM.name s=false:=by
 unfold PM.name;rcases h with h|h|h <;> simp[h]
theorem name_yes {s:ByteArray}(h:PM.comp s=true)(h1:s≠PM.dot)(h2:s≠PM.dots):PM.name s=true:=by
 unfold PM.name;simp[h,h1,h2]
theorem IsName_any (s:ByteArray)(w:World)(hs:s.size<=maxLen) :
 Calls prog 132 #[.string s] w fun e w'=>e=.returned (.bool (PM.name s))/\w=w':=by
 cases h0:PM.comp s with
 | true=>
   have H0:Hid (Calls prog 170 #[.string s] w fun e w'=>e=.returned (.bool true)/\w=w'):=by
    have:=component_any s w hs;rwa[h0] at this
   by_cases h1:s=PM.dot
   ·have hh:Hid (PM.name s=false):=name_no (.inr (.inl h1));have e1:=dot_yes h1;clear h0 h1;go_enter func132,ntmps132
    go_wp2_with fail
    refine H0.out.mono ?_;rintro e w' ⟨rfl,rfl⟩;go_wp2_with fail
    go_ret
    exact⟨by rw[hh.out];rfl,rfl⟩
   obtain⟨e1,e2⟩:=dot_no h1
   by_cases h2:s=PM.dots
   ·have hh:Hid (PM.name s=false):=name_no (.inr (.inr h2));have e3:=dots_yes h2;clear h0 h1 h2;go_enter func132,ntmps132
    go_wp2_with fail
    refine H0.out.mono ?_;rintro e w' ⟨rfl,rfl⟩;go_wp2_with fail
    go_ret
    exact⟨by rw[hh.out];rfl,rfl⟩
   obtain⟨e3,e4⟩:=dots_no h2;have hh:Hid (PM.name s=true):=name_yes h0 h1 h2;clear h0 h1 h2;go_enter func132,ntmps132
   go_wp2_with fail
   refine H0.out.mono ?_;rintro e w' ⟨rfl,rfl⟩;go_wp2_with fail
   go_ret
   exact⟨by rw[hh.out];rfl,rfl⟩
 | false=>
   have H0:Hid (Calls prog 170 #[.string s] w fun e w'=>e=.returned (.bool false)/\w=w'):=by
    have:=component_any s w hs;rwa[h0] at this
   have hh:Hid (PM.name s=false):=name_no (.inl h0);clear h0;go_enter func132,ntmps132
   go_wp2_with fail
   refine H0.out.mono ?_;rintro e w' ⟨rfl,rfl⟩;go_wp2_with fail
   go_ret
   exact⟨by rw[hh.out];rfl,rfl⟩
end Go.Proofs.YtfffibepcdlldaaGreat
