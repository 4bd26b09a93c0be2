import Derived.Test.YtleenphlgbklmaaGreatDoorACPPs
set_option linter.unusedVariables false
set_option linter.unusedSimpArgs false
set_option maxRecDepth 100000
set_option maxHeartbeats 8000000
namespace Go.Proofs.YtleenphlgbklmaaGreatDoor
open Go.RowKit
theorem JrM(x y:X)(loc:Nat)(ak:SWX x)(af:SWX y):SWX (.mk ⟨#[97,112,112]⟩ [] [x,y] loc):=by
 intro v w P B b last O h E ah;have J:tw (.mk ⟨#[97,112,112]⟩ [] [x,y] loc)=(tw x+16+(tw y+16))+16:=by simp[tw,tws]
 rw[J]at ah;rw[JhM];clear J
 cases h with
 |app x y loc d p q hP M G U=>
 obtain⟨ai,u,rfl⟩:=G.iface;obtain⟨T2,u2,rfl⟩:=U.iface;have t0:=Ice (.pointer (some ⟨d,0,none⟩)) w;have t1:=Icf (.pointer (some ⟨d,0,none⟩)) w;have t2:=Icb (.pointer (some ⟨d,0,none⟩)) w;have t3:=Icc (.pointer (some ⟨d,0,none⟩)) w;have t4:=Icd (.pointer (some ⟨d,0,none⟩)) w;have t5:=Ich (.pointer (some ⟨d,0,none⟩)) w;have t6:=Ica (.pointer (some ⟨d,0,none⟩)) w;have c1:w.cell? ⟨d,1,none⟩=some (.iface ai u):=by simp[World.cell?,M]
 go_enter Vcx,Vcp
 have T:Hid _:=wbf G.drew;have V:Hid _:=JlH (JbR x.op) ak G.drew (show BW 187 w.drew B b (.string last) O from E) (by omega)
 go_wp2_with fail
 go_region_with (first|(go_at_call 139;refine Vac T.out ?_;rintro e w' ⟨rfl,rfl⟩)|(go_at_call 138;refine Vac V.out ?_;rintro e D ⟨rfl,l1,ae,o1,E1,n1,ac,aa⟩))
 all_goals
  have I:KB B b w D:=(show KB B b w w.drew from⟨(Kp.refl _ w).drew,fun _ _ _ _ _ _ h=>h⟩).trans aa;have aj:=(I.xk E) _ _ _ _ (by decide) M;have c2:D.cell? ⟨d,2,none⟩=some (.iface T2 u2):=by simp[World.cell?,aj]
  have L:=U.keepT (I.xk E);have HG:Hid _:=wba L.drew;have HY:Hid _:=JlH (JbL y.op) af L.drew (show BW 187 D.drew B b (.string l1) ae from ac) (by omega);clear T V
  go_wp2_with fail
  go_region_with (first|(go_at_call 140;refine Vac HG.out ?_;rintro e w' ⟨rfl,rfl⟩)|(go_at_call 138;refine Vac HY.out ?_;rintro e w2 ⟨rfl,l2,W,o2,E2,n2,Y,Z⟩))
  all_goals
   have ag:KB B b w w2:=I.trans ((show KB B b D D.drew from⟨(Kp.refl _ D).drew,fun _ _ _ _ _ _ h=>h⟩).trans Z)
   go_wp2
   go_end0
   refine⟨rfl,_,o2,?_,ag⟩
   have EE:W=O++Lib.strCells (pre last++(brk (JbR x.op) (txt x)++⟨#[32]⟩++brk (JbL y.op) (txt y))):=by
    rw[E2.out,E1.out,Jax,JaH o1];congr 2
    apply JaA
    simp only[JaE,Val,VaV,VaK]
   rw[<-EE];exact Y
end Go.Proofs.YtleenphlgbklmaaGreatDoor
