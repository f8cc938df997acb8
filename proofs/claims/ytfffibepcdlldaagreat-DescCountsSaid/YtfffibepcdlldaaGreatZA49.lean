/- A part. -/
import Derived.Test.YtfffibepcdlldaaGreatZA48
import Derived.Laws.BytesArg
import Derived.Laws.CopyOwn
import Derived.Laws.AppendOwnNone
import Derived.Test.YtfffibepcdlldaaGreatZA01
import Derived.Deep.DeepAppendWide
import Derived.Maps.AppendAt
import Derived.ShutString
import Derived.ChangeOld
import Derived.SizedLaws
set_option linter.unusedVariables false
set_option linter.unusedSimpArgs false
set_option maxRecDepth 100000
set_option maxHeartbeats 64000000
open Go.Proofs.Tryz

namespace Go.Proofs.YtfffibepcdlldaaGreat
open Go.ChangeShapes Go.WideShapes Go.ChangeAt Go.RowKit
open FM
def fcel (l:List Nat):List Value:=l.map fl
theorem fcel_get (l:List Nat)(j:Nat):(fcel l)[j]? = (l[j]?).map fl:=by simp[fcel]
def Fsl (w:World)(ao:Option Addr)(n cap:Nat)(l:List Nat):Prop:=
 l.length=n/\n<=cap/\cap<=maxLen/\(ao=none->cap=0)/\(∀ b∈l,b<18446744073709551616)/\∀ a,ao=some a->∀ j u,(fcel l)[j]? = some u->w.cell? (a.add j)=some u
theorem Fsl.below {w w':World}{ao:Option Addr}{n cap:Nat}{l:List Nat}(h:Fsl w ao n cap l){B:Nat}(hb:Below B w w')(hB:w.heap.size<=B):Fsl w' ao n cap l:=by
 refine⟨h.1,h.2.1,h.2.2.1,h.2.2.2.1,h.2.2.2.2.1,fun a ha j u hu=>?_⟩;have hc:=h.2.2.2.2.2 a ha j u hu;rw[hb.cell (Nat.lt_of_lt_of_le (World.block_lt_of_cell? w _ hc) hB)];exact hc
theorem Fsl.at {w:World}{ao:Option Addr}{n cap:Nat}{l:List Nat}(h:Fsl w ao n cap l)(hn:0<n) :
 ∃ b off,ao=some ⟨b,off,none⟩/\∀ j,j<n->w.cell? ⟨b,off+j,none⟩=some (fl (l[j]?.getD 0)):=by
 cases hao:ao with
 | none=>have:=h.2.2.2.1 hao;have:=h.2.1;omega
 | some a=>
   have hc:∀ j,j<n->w.cell? (a.add j)=some (fl (l[j]?.getD 0)):=fun j hj=>h.2.2.2.2.2 a hao j _ (by rw[fcel_get,List.getElem?_eq_getElem (by rw[h.1];exact hj)];rfl);obtain⟨b,off,spot⟩:=a;have hs:spot=none:=by simpa[Addr.add] using World.cell?_spot (hc 0 hn)
   subst hs;exact⟨b,off,rfl,fun j hj=>by have:=hc j hj;rwa[Addr.add_lit] at this⟩
def ad (s b:Nat):Nat:=(D.add s b).getD 0
end Go.Proofs.YtfffibepcdlldaaGreat
