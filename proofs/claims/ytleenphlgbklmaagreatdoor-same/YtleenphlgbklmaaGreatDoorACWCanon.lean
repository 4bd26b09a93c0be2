import Derived.Test.YtleenphlgbklmaaGreatDoorACWLet
set_option linter.unusedVariables false
set_option linter.unusedSimpArgs false
set_option maxRecDepth 100000
set_option maxHeartbeats 8000000
namespace Go.Proofs.YtleenphlgbklmaaGreatDoor
open Go.RowKit
def mxL(ns:List Nat):Nat:=ns.foldl (fun m v=>if m<=v then v+1 else m) 0
theorem Jpt(ns:List Nat)(a:Nat):a<=ns.foldl (fun m v=>if m<=v then v+1 else m) a:=by
 induction ns generalizing a with
 |nil=>exact Vau _
 |cons v ns d=>
  simp only[VbO];refine Vas ?_ (d _)
  split<;>omega
theorem Jri(ns:List Nat)(a v:Nat)(h:v∈ns):v<ns.foldl (fun m v=>if m<=v then v+1 else m) a:=by
 induction ns generalizing a with
 |nil=>cases h
 |cons u ns d=>
  simp only[VbO]
  rcases VaW.1 h with rfl|h
  .refine Va6 ?_ (Jpt ns _)
   split<;>omega
  .exact d _ h
variable {ns:List Nat}{v:Nat}
theorem Jht(h:v∈ns):v<mxL ns:=Jri ns 0 v h
theorem JaZ(n:Nat)(l:List Nat):Jao (.mk ⟨#[]⟩ n []) l=if inB l n then l else l++ [n]:=by simp[Jao]
theorem JcI(l:List Nat):Jao (.mk ⟨#[105,110,116]⟩ 0 []) l=l:=by simp[Jao,Jcb]
theorem Jb9(l:List Nat):Jao (.mk ⟨#[98,111,111,108]⟩ 0 []) l=l:=by simp[Jao,Jcb]
theorem Jbn(a:Ty)(l:List Nat):Jao (.mk ⟨#[108,105,115,116]⟩ 0 [a]) l=Jao a l:=by simp[Jao,Jcb]
theorem Jbo(a b:Ty)(l:List Nat):Jao (.mk ⟨#[112,97,105,114]⟩ 0 [a,b]) l=Jao b (Jao a l):=by simp[Jao,Jcb]
theorem Jcl(a b:Ty)(l:List Nat):Jao (.mk ⟨#[102,117,110]⟩ 0 [a,b]) l=Jao b (Jao a l):=by simp[Jao,Jcb]
def cnA(ns:List Nat)(m:Nat):Nat->List BA
 |0=>List.replicate m ⟨#[]⟩
 |q+1=>(cnA ns m q).set (ns.getD q 0) (letM q)
def cnN(ns:List Nat):List BA:=cnA ns (mxL ns) ns.length
theorem Jhd(ns:List Nat)(m q:Nat):(cnA ns m q).length=m:=by
 induction q with
 |zero=>simp[cnA]
 |succ q d=>simp[cnA,d]
def canT(t:Ty):BA:=Ide (cnN (Jao t [])) t
end Go.Proofs.YtleenphlgbklmaaGreatDoor
