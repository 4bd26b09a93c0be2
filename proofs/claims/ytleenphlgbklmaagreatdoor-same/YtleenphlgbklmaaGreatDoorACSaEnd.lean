import Derived.Test.YtleenphlgbklmaaGreatDoorTie
import Derived.Test.YtleenphlgbklmaaGreatDoorACSaA
import Derived.Test.YtleenphlgbklmaaGreatDoorACSnB
set_option linter.unusedVariables false
set_option linter.unusedSimpArgs false
set_option maxRecDepth 100000
set_option maxHeartbeats 8000000
namespace Go.Proofs.YtleenphlgbklmaaGreatDoor
open Go.ChangeShapes Go.WideShapes Go.ChangeAt Go.RowKit Go.ChangeMaps
open Go.Proofs.Tryz
def laidC:List (String×DataW Unit):=("math/bits.deBruijn32tab",Rows.laid_math_bits_deBruijn32tab)::("math/bits.deBruijn64tab",Rows.laid_math_bits_deBruijn64tab)::("internal/strconv.uint64pow10",Rows.laid_internal_strconv_uint64pow10)::Jq7
variable {W:World}
theorem JkC(h:laidMetH prog Rows.sameRow.laid W):laidMet prog laidC W/\handlesMet prog [("errors.errorType",Rows.laid_errors_errorType)] W:=h
theorem JqS(T:laidMetH prog Rows.sameRow.laid W):∃A,Glb A W:=by
 obtain⟨I,D⟩:=JkC T;obtain⟨A,⟨G,d⟩,c0,U,c2,E,O,L,M,J⟩:=Jpx I.tail.tail.tail;exact⟨A,G,d,c0,U,c2,E,O,L,M,J,Jj6 D⟩
theorem JoD(os:Os)(args:Array Value):laidMetH prog Rows.sameRow.laid ((World.doorLaid prog 183 os).forCall (fun _ _=>0) ⟨#[],args,[]⟩).memory:=
 laidMetH_of_parts3 (fuel:=8) (laidMet_of_run' 8 (by kernel_rfl) (by kernel_rfl)) (by kernel_rfl) (by kernel_rfl)
variable {c:Int}
theorem wf64(h:(Lit.int .i64 c).wf=true): -9223372036854775808<=c/\c<=9223372036854775807:=by
 simp only[Lit.wf,Vaz,Va1]at h;exact⟨h.1,h.2⟩
theorem JhE(os:Os)(J:os.Started)(H:Type)(enc:TypeId×Value->H):
  ReturnsInHanded {} Tryz.checked os 13 .any (fun w args=>(Rows.sameSpec.pre enc prog f13 [] false w args/\laidMetH prog Rows.sameRow.laid w)/\sizedMet enc prog f13 (OpenSpec.ofChange Rows.sameSpec) false w args)
   (Rows.sameSpec.post enc prog f13 false true false false):=by
 refine returnsInHanded_of_change_and (C:=Tryz.checked) (X:=fun w _=>laidMetH prog Rows.sameRow.laid w) (fun _ _ _ Y h=>h.of_heap Y) Ibx J (by kernel_rfl) func13
  (ChangeSpec.witness_shaped (enc:=enc) (C:=Tryz.checked) (os:=os) (X:=fun w _=>laidMetH prog Rows.sameRow.laid w) false (World.doorLaid prog 183 os) #[.string ⟨#[]⟩] 8 rfl (World.shaped_of_RefB (by kernel_rfl) (by kernel_rfl)) (by kernel_rfl) (by kernel_rfl) (by kernel_rfl) (JoD os _)) ?_
 intro W O args U gs before aa d _ _ V _;have D:∀(j:Nat) t v,f13.params[j]? =some t->args[j]? =some v->Value.okWide prog W .any O t v:=aa;have G:=d;obtain⟨p,q,T,hV,rfl,ae,ac⟩:=d;have E:DataW.TrodAll enc prog W 0 (fun _=>true) true f13.params.toList args.toList U p:=T;rw[params13]at E D;obtain⟨v0,d0,rfl,rfl,L⟩:=trodAll_one E;obtain⟨rfl,rfl⟩:=trodVars_none hV;obtain⟨s,rfl,rfl,rfl,I⟩:=open_string VaR (D 0 9 v0 rfl rfl) L;obtain⟨A,Z⟩:=JqS V;simp only[Vb6]at G;refine(Jm6 s W Z (by unfold maxLen at I;omega)).mono fun e W' ⟨he,M⟩=> ?_
 subst he;exact⟨_,rfl,_,_,_,[],[],[],G,trodAll_mk1 (shut_bool underlying4 true),trodAll_mk1 (shut_string VaR I),rfl,M.frame _,fun h=>by cases h⟩
theorem Jje:Rows.SameSaid:=
 OpenClaim.holds_of_wide 13 f13 rfl rfl rfl rfl rfl rfl rfl ⟨rfl,rfl,rfl,rfl,rfl⟩ rfl rfl rfl rfl rfl (by kernel_rfl) func13 JhD
  (VdB (by kernel_rfl)) (by unfold Func.isWrapper;first|(rw[Vat (by decide+kernel)];kernel_rfl)|(rw[Vaq (by decide+kernel)];exact⟨rfl,rfl⟩))
  (fun os d H enc _=>JhE os d H enc)
theorem same_card:Rows.SameCardSaid:=
 Claim7.holds_tied_plain_at .later [] [.data,.data,.data,.handle,.sentinel,.sentinel,.sentinel,.sentinel,.sentinel,.sentinel,.sentinel,.sentinel] true (true, "4b04f815955462477559af733486018a67ea09e0ea5db1030bf16ee8c8116a79") true
  Jje (fun _ h=>by cases h) (by kernel_rfl) (fun _ h=>by cases h) same_row_tie rfl ⟨rfl,rfl⟩ (by kernel_rfl) rfl
  (fun f I D G=>by
   obtain rfl:f=13:=VbN ((show prog.funcNamed "schemes/schemeskeep.Same" =some 13 by kernel_rfl).symm.trans D)|>.symm;obtain rfl:I=f13:=(VbN (func13.symm.trans G)).symm
   exact⟨by kernel_rfl,fun j t ht=>by
    rw[params13]at ht;have d:t∈ [9]:=by simpa using Array.mem_of_getElem? ht
    have E:([9].all fun u=> !prog.wantsStandIn u)=true:=by kernel_rfl
    exact(show prog.wantsStandIn t=false by simpa using VdM.1 E t d)⟩)
  (by kernel_rfl)
#print axioms same_card
end Go.Proofs.YtleenphlgbklmaaGreatDoor
