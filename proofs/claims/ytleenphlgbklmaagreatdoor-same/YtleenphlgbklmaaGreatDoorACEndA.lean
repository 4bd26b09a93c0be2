import Derived.Test.YtleenphlgbklmaaGreatDoorRows
import Derived.ProofKit
import Derived.LaidLaws
import Derived.LaidHandle
import Derived.LaidMore
import Derived.Stop.LaidErr
import Derived.Stop.LaidTwo
import Derived.Stop.Joined
import Derived.SevenTiedAt
import Derived.ChangeMaps5
import Derived.Test.YtleenphlgbklmaaGreatDoorACFaultS
set_option linter.unusedVariables false
set_option linter.unusedSimpArgs false
set_option maxRecDepth 100000
set_option maxHeartbeats 8000000
namespace Go.Proofs.YtleenphlgbklmaaGreatDoor
open Go.ChangeShapes Go.WideShapes Go.ChangeAt Go.RowKit Go.ChangeMaps
open Go.Proofs.Tryz
variable {W:World}
theorem Ibx:ownKnob prog.godebug=none:=by kernel_rfl
theorem Iat:prog.globalNamed "errors.errorType" =some 8:=by kernel_rfl
theorem IbA:(prog.cutTypes.find? (·.1== "internal/reflectlite.rtype")).map (·.2)=some 286:=by kernel_rfl
theorem Ibw:((List.range 438).filter fun t=>prog.rowNamed t [101,114,114,111,114])= [72]:=by kernel_rfl
theorem IbB:prog.types.size=438:=by kernel_rfl
theorem IbG: "*" ++ "errors.errorString" = "*errors.errorString" :=by decide
theorem Ibz(u:TypeId)(h:prog.typeName? 3 u=some "*errors.errorString"):u=407:=
 typeName_ptr_named (nm:= "errors.errorString") (by rw[IbG];kernel_rfl) (by kernel_rfl) (by decide) u (by rw[IbG];exact h)
theorem Iae:prog.cellsOf 426=1:=by kernel_rfl
theorem Iaf:prog.cellsOf 9=1:=by kernel_rfl
theorem Ibk:prog.globalNamed "schemes/api.ErrLong" =some 0:=by kernel_rfl
theorem Ibl:prog.globalNamed "schemes/api.ErrDeep" =some 1:=by kernel_rfl
theorem Ibm:prog.globalNamed "schemes/api.ErrArg" =some 2:=by kernel_rfl
theorem Ibn:prog.globalNamed "schemes/api.ErrType" =some 3:=by kernel_rfl
theorem Ibo:prog.globalNamed "schemes/api.ErrBig" =some 4:=by kernel_rfl
theorem Ibp:prog.globalNamed "schemes/api.ErrFuel" =some 5:=by kernel_rfl
theorem Ibq:prog.globalNamed "schemes/api.ErrStopped" =some 6:=by kernel_rfl
theorem Ibr:prog.globalNamed "schemes/api.ErrNot" =some 7:=by kernel_rfl
theorem IaB:(prog.globals[0]?).map (·.type)=some 72:=by kernel_rfl
theorem IaC:(prog.globals[1]?).map (·.type)=some 72:=by kernel_rfl
theorem IaD:(prog.globals[2]?).map (·.type)=some 72:=by kernel_rfl
theorem IaE:(prog.globals[3]?).map (·.type)=some 72:=by kernel_rfl
theorem IaF:(prog.globals[4]?).map (·.type)=some 72:=by kernel_rfl
theorem IaG:(prog.globals[5]?).map (·.type)=some 72:=by kernel_rfl
theorem IaH:(prog.globals[6]?).map (·.type)=some 72:=by kernel_rfl
theorem IaI:(prog.globals[7]?).map (·.type)=some 72:=by kernel_rfl
def Jq7:List (String×DataW Unit):= [("schemes/api.ErrLong",Rows.laid_schemes_api_ErrLong),("schemes/api.ErrDeep",Rows.laid_schemes_api_ErrDeep),("schemes/api.ErrArg",Rows.laid_schemes_api_ErrArg),("schemes/api.ErrType",Rows.laid_schemes_api_ErrType),("schemes/api.ErrBig",Rows.laid_schemes_api_ErrBig),("schemes/api.ErrFuel",Rows.laid_schemes_api_ErrFuel),("schemes/api.ErrStopped",Rows.laid_schemes_api_ErrStopped),("schemes/api.ErrNot",Rows.laid_schemes_api_ErrNot)]
theorem Jj6(h:handlesMet prog [("errors.errorType",Rows.laid_errors_errorType)] W):W.cell? ⟨8,0,none⟩=some (.iface 286 (.agg #[.pointer (some ⟨13,72,none⟩)])):=by
 obtain⟨name,u,ty,L,G,E,J,d⟩:=h _ (Va4.2 rfl);have I:name= [101,114,114,111,114]:=(VbN L).symm;subst I;obtain rfl:=VbN (IbA.symm.trans G);have D:ty∈(List.range 438).filter fun t=>prog.rowNamed t [101,114,114,111,114]:=List.mem_filter.2 ⟨VcC.2 (by rw[<-IbB];exact E),J⟩
 rw[Ibw]at D;obtain rfl:=Va4.1 D;have M:typeHandle prog 72= .pointer (some ⟨13,72,none⟩):=by kernel_rfl
 rw[M]at d;simpa using VbM Iat d 0
variable {a b:Addr}{s t:BA}{x y:List UInt8}
theorem Jos(D:W.cell? a=some (.string s))(E:s.data.toList=x)(d:W.cell? b=some (.string t))(ht:t.data.toList=y)(h:x≠y):a≠b:=by
 rintro rfl;rw[D]at d;simp only[Vaa,Value.string.injEq]at d;subst d;exact h (E.symm.trans ht)
def Jp7:Nat->List UInt8
 |0=> [116,111,111,32,108,111,110,103]
 |1=> [116,111,111,32,109,97,110,121,32,112,97,114,116,115,32,119,105,116,104,105,110,32,101,97,99,104,32,111,116,104,101,114]
 |2=> [97,32,110,117,109,98,101,114,32,111,102,32,114,111,117,110,100,115,32,116,104,97,116,32,105,115,32,110,111,110,101]
 |3=> [105,116,32,104,97,115,32,110,111,32,116,121,112,101]
 |4=> [97,32,116,121,112,101,32,116,104,97,116,32,105,115,32,116,111,111,32,98,105,103]
 |5=> [109,111,114,101,32,114,111,117,110,100,115,32,97,114,101,32,110,101,101,100,101,100]
 |6=> [115,116,111,112,112,101,100]
 |_=> [105,116,32,105,115,32,110,111,32,105,110,115,116,97,110,99,101]
theorem Jnm:∀i,i<8->∀j,j<8->i≠j->Jp7 i≠Jp7 j:=by decide
theorem Jpx(h:laidMet prog Jq7 W):∃A:Nat->Addr,((∀k,k<8->∃c t,W.heap[(A k).block]? =some (.cells c t (0,0)))/\(∀i j,i<8->j<8->i≠j->A i≠A j))/\(W.cell? ⟨0,0,none⟩=some (.iface 407 (.pointer (some (A 0))))/\W.cell? ⟨1,0,none⟩=some (.iface 407 (.pointer (some (A 1))))/\W.cell? ⟨2,0,none⟩=some (.iface 407 (.pointer (some (A 2))))/\W.cell? ⟨3,0,none⟩=some (.iface 407 (.pointer (some (A 3))))/\W.cell? ⟨4,0,none⟩=some (.iface 407 (.pointer (some (A 4))))/\W.cell? ⟨5,0,none⟩=some (.iface 407 (.pointer (some (A 5))))/\W.cell? ⟨6,0,none⟩=some (.iface 407 (.pointer (some (A 6))))/\W.cell? ⟨7,0,none⟩=some (.iface 407 (.pointer (some (A 7))))):=by
 obtain⟨D,O,s0,s1,c0,c1,t0,t1,ai,aw,aC,ay,_,al,aD,_,_,aJ,ao⟩:=laid_sentinels2 h Ibk IaB Ibl IaC Vcl Ibz Vb8 Vc6 rfl rfl VaR Iae Iaf;obtain⟨G,J,s2,s3,c2,c3,t2,t3,aI,af,au,Y,_,aF,ac,_,_,V,av⟩:=laid_sentinels2 h.tail.tail Ibm IaD Ibn IaE Vcl Ibz Vb8 Vc6 rfl rfl VaR Iae Iaf;obtain⟨E,d,s4,s5,c4,c5,t4,t5,an,Z,aa,aH,_,ah,am,_,_,aB,aE⟩:=laid_sentinels2 h.tail.tail.tail.tail Ibo IaF Ibp IaG Vcl Ibz Vb8 Vc6 rfl rfl VaR Iae Iaf;obtain⟨T,M,s6,s7,c6,c7,t6,t7,ak,ae,ag,az,_,aq,ax,_,_,aA,aj⟩:=laid_sentinels2 h.tail.tail.tail.tail.tail.tail Ibq IaH Ibr IaI Vcl Ibz Vb8 Vc6 rfl rfl VaR Iae Iaf;refine⟨fun k=>match k with|0=>D|1=>O|2=>G|3=>J|4=>E|5=>d|6=>T|_=>M,⟨?_,?_⟩,?_⟩
 .intro k hk;have:k=0\/k=1\/k=2\/k=3\/k=4\/k=5\/k=6\/k=7:=by omega
  rcases this with rfl|rfl|rfl|rfl|rfl|rfl|rfl|rfl
  .exact⟨_,_,aJ⟩
  .exact⟨_,_,ao⟩
  .exact⟨_,_,V⟩
  .exact⟨_,_,av⟩
  .exact⟨_,_,aB⟩
  .exact⟨_,_,aE⟩
  .exact⟨_,_,aA⟩
  .exact⟨_,_,aj⟩
 .have U:∀k,k<8->∃s,W.cell? ((fun k=>match k with|0=>D|1=>O|2=>G|3=>J|4=>E|5=>d|6=>T|_=>M) k)=some (.string s)/\s.data.toList=Jp7 k:=by
   intro k hk;have:k=0\/k=1\/k=2\/k=3\/k=4\/k=5\/k=6\/k=7:=by omega
   rcases this with rfl|rfl|rfl|rfl|rfl|rfl|rfl|rfl
   .exact⟨_,aC,ay⟩
   .exact⟨_,al,aD⟩
   .exact⟨_,au,Y⟩
   .exact⟨_,aF,ac⟩
   .exact⟨_,aa,aH⟩
   .exact⟨_,ah,am⟩
   .exact⟨_,ag,az⟩
   .exact⟨_,aq,ax⟩
  intro i j I L aG;obtain⟨s,e1,e2⟩:=U i I;obtain⟨t,e3,e4⟩:=U j L;exact Jos e1 e2 e3 e4 (Jnm i I j L aG)
 .exact⟨by simpa using VbM Ibk ai 0,by simpa using VbM Ibl aw 0,by simpa using VbM Ibm aI 0,by simpa using VbM Ibn af 0,by simpa using VbM Ibo an 0,by simpa using VbM Ibp Z 0,by simpa using VbM Ibq ak 0,by simpa using VbM Ibr ae 0⟩
variable {w':World}
theorem Kept.frame(h:Kept W w')(d:MemPlace->Prop):W.keptBut w' d:=by
 refine⟨h.os,h.output,fun i D=> ?_⟩
 rw[h.block i D]
 split<;>simp_all
end Go.Proofs.YtleenphlgbklmaaGreatDoor
