import Derived.Test.YtleenphlgbklmaaGreatDoorACSnA
set_option linter.unusedVariables false
set_option linter.unusedSimpArgs false
set_option maxRecDepth 100000
set_option maxHeartbeats 8000000
namespace Go.Proofs.YtleenphlgbklmaaGreatDoor
open Go.RowKit
variable {x:X}
theorem WLx.wf(h:WLx x):WF x:=by
 induction h with
 |nam n loc _=>exact .leaf _ n loc (.inl rfl)
 |num n loc _=>exact .leaf _ n loc (.inr rfl)
 |fn n a loc _ _ J=>exact .fn n a loc J
 |pair a b loc _ _ d D=>exact .pair a b loc d D
 |ite a b c loc _ _ _ d D L=>exact .ite a b c loc d D L
 |app a b loc _ _ d D=>exact .app a b loc d D
 |lt n a b loc _ _ _ d D=>
  refine .lt _ [n] [a,b] loc (.inl rfl) rfl (by simp) (fun c E=> ?_)
  simp only[VaW,Vbr,VcA]at E
  rcases E with rfl|rfl
  .exact d
  .exact D
 |rc names vs y loc I G _ _ _ _ d D=>
  refine .lt _ names (vs++ [y]) loc (.inr rfl) (by simp[I]) G (fun c E=> ?_)
  rcases Vbd.1 E with E|E
  .exact d c E
  .rw[Va4]at E;rw[E];exact D
variable {t:Ty}{k:Nat}
theorem JqE(h:FO t 0 k)(D:sz t<=120):(Ide (lets k) t).size<=1200:=by
 have:=Jnd (lets k) 4 (by omega) (fun m d=>by
  obtain⟨i,_,rfl⟩:=Vbj.1 d;have:=Jdi i;omega) (t:=t) (by rw[Jdj];exact h.wt)
 omega
theorem Jn3(s:BA):(infR s).t.size<=1200:=by
 cases e:pxO s with
 |long=>unfold infR;rw[e];exact VaN _
 |syn l=>unfold infR;rw[e];exact VaN _
 |deep=>unfold infR;rw[e];exact VaN _
 |good x=>
  obtain⟨o,d,E⟩:=Jdd e;rw[E]
  cases d with
  |unb q _=>exact VaN _
  |sen j _ _ _=>exact VaN _
  |txt t σ τ _ _ _ D _ _=>
   show(canT τ.ty).size<=1200;rw[Jeg];have F:=JdX τ [] [];rw[Vb6,Vbp]at F;have G:(τ.num (τ.vsl [])).sz=τ.sz:=Tt.sub_sz (fun i=>⟨_,rfl⟩) τ;exact JqE F (by rw[Jf0,G];exact D)
theorem Jrz(s:BA):(shwR s).t.size<=200000:=by
 cases e:pxO s with
 |long=>unfold shwR;rw[e];exact VaN _
 |syn l=>unfold shwR;rw[e];exact VaN _
 |deep=>unfold shwR;rw[e];exact VaN _
 |good x=>
  obtain⟨d,D,ht,E⟩:=JiO (Jhf.2 e);have:=JiF x d.wf;unfold shwR;rw[e];show(txt x).size<=200000;omega
def sXX:BA:=⟨#[102,117,110,32,120,32,45,62,32,120]⟩
theorem xx_ok:(bq (infR sXX).t ⟨#[97,32,45,62,32,97]⟩&&decide ((infR sXX).what=0))=true:=by kernel_rfl
variable {A:Nat->Addr}
theorem Jm6(d:BA)(w:World)(D:Glb A w)(I:d.size<=9223372036854775807):Calls Tryz.prog 13 #[.string d] w fun e w'=>e= .returned (.bool true)/\Kept w w':=by
 have G:=xx_ok;simp only[Vaz,Va1]at G;have Y:=Jrz d;have S:=Jm5 d
 have two:∀a b:BA,a.size<=100->b.size<=100->(a++(shwR d).t++b).size<=9223372036854775807:=fun a b ha hb=>by
  simp only[Var];omega
 refine Jli (wS:=(shwR d).what) (lS:=(shwR d).loc) (shw:=(shwR d).t) (tT:=(infR d).t) (sT:=(infR d).s) (wT:=(infR d).what) (lT:=(infR d).loc)
  (tU:=(infR (shwR d).t).t) (sU:=(infR (shwR d).t).s) (wU:=(infR (shwR d).t).what) (lU:=(infR (shwR d).t).loc) (tR:=(shwR (shwR d).t).t) (wR:=(shwR (shwR d).t).what) (lR:=(shwR (shwR d).t).loc)
  (tL:=(infR (tLet (shwR d).t)).t) (sL:=(infR (tLet (shwR d).t)).s) (wL:=(infR (tLet (shwR d).t)).what) (lL:=(infR (tLet (shwR d).t)).loc)
  (tI:=(infR (tId (shwR d).t)).t) (sI:=(infR (tId (shwR d).t)).s) (wI:=(infR (tId (shwR d).t)).what) (lI:=(infR (tId (shwR d).t)).loc)
  (tP:=(infR (tPr (shwR d).t)).t) (sP:=(infR (tPr (shwR d).t)).s) (wP:=(infR (tPr (shwR d).t)).what) (lP:=(infR (tPr (shwR d).t)).loc)
  Y (by have:=Jn3 (tPr (shwR d).t);omega)
  (Jo1 _ (JbF sXX w D (by decide)) G.2 (Jf8.1 G.1))
  (fun W hk=>Jfd d W (D.kept hk) I) (fun W hk=>JbF d W (D.kept hk) I)
  (fun W hk=>JbF (shwR d).t W (D.kept hk) (by omega)) (fun W hk=>Jfd (shwR d).t W (D.kept hk) (by omega))
  (fun W hk=>JbF (tLet (shwR d).t) W (D.kept hk) (two _ _ (by decide) (by decide)))
  (fun W hk=>JbF (tId (shwR d).t) W (D.kept hk) (two _ _ (by decide) (by decide)))
  (fun W hk=>JbF (tPr (shwR d).t) W (D.kept hk) (two _ _ (by decide) (by decide)))
  S.bad (fun E=>S.a E) (fun E=>S.b E) (fun E O J Z L=> ?_)
 obtain⟨e1,V,e3,e4⟩:=S.c E O J Z L;refine⟨e1,V,e3,fun T h6=> ?_⟩
 obtain⟨a,b,own,M,q2,U,q4,q5⟩:=e4 T h6;refine⟨Ide own a,Ide own b,fun W hk=>JoY (D.kept hk) (by have:=Jn3 (tPr (shwR d).t);omega) M,fun W hk=> ?_,fun W hk=> ?_⟩
 .have:=Jfc (Ide own a) W (D.kept hk) (by omega);rw[q2]at this;exact this
 .have:=Jfc (Ide own b) W (D.kept hk) (by omega);rw[U]at this;exact this
end Go.Proofs.YtleenphlgbklmaaGreatDoor
