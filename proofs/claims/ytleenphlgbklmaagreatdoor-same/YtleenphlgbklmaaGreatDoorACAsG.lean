import Derived.Test.YtleenphlgbklmaaGreatDoorACBase
import Derived.LaidEql
import Derived.Stop.Asserts
import Derived.RowKitTokens
set_option linter.unusedVariables false
set_option linter.unusedSimpArgs false
set_option maxRecDepth 100000
set_option maxHeartbeats 8000000
namespace Go.Proofs.YtleenphlgbklmaaGreatDoor
open Go.RowKit Go.Extern.Stop Go.Stop Go.Extern
open ReflectliteValue renaming unpack → Vet, methodAny → Veu, valueError → Vev, method → Vew, isNil → Vex, parts → Vey
open ReflectliteType renaming toType → Vez, abiMethod → VeA, method → VeB, elem → VeC, relation → VeD, implements_ → VeE, typeOf → VeF, assignableTo → VeG
open Result renaming andThen → VeH
open Tryz
theorem Jqw(t:Value)(w:World):
  Calls prog 71 #[.nilIface,t] w fun e w'=>e= .returned (.bool false)/\w'=w:=by
 go_enter func71,ntmps71
 go_wp2
 go_ret
 exact⟨rfl,rfl⟩
theorem Ia9(h:Value)(w:World):(Go.method 538 286 (.agg #[h]) "Kind").run prog w= .ok (268,h) w:=by kernel_rfl
theorem Ia7(h:Value)(w:World):(Go.method 538 286 (.agg #[h]) "Elem").run prog w= .ok (288,.agg #[h]) w:=by kernel_rfl
theorem Ia8(h:Value)(w:World):(Go.method 538 286 (.agg #[h]) "Implements").run prog w= .ok (289,.agg #[h]) w:=by kernel_rfl
theorem Ia6(h:Value)(w:World):(Go.method 538 286 (.agg #[h]) "AssignableTo").run prog w= .ok (286,.agg #[h]) w:=by kernel_rfl
structure Tg(P E:TypeId):Prop where
 vo:∀(t:Addr) (w:World),(Vet (.iface P (.pointer (some t)))).run prog w= .ok (.agg #[.pointer (some ⟨13,P,none⟩),.pointer (some ⟨w.heap.size,0,none⟩),.int .u64 150]) (w.alloc (.cells #[.pointer (some t)] P))
 ty:∀(a:Addr) (w:World),(Veu (Vev "reflectlite.Value.Type" 0) (fun t _ _ _=>Vez t) #[.agg #[.pointer (some ⟨13,P,none⟩),.pointer (some a),.int .u64 150]]).run prog w= .ok (.iface 286 (.agg #[.pointer (some ⟨13,P,none⟩)])) w
 kp:∀w:World,((VeA fun t=>(fun a:Nat=>Value.int IntKind.u8 (a:Int))<$>Rtype.kind t) #[.pointer (some ⟨13,P,none⟩)]).run prog w= .ok (.int .u8 22) w
 ke:∀w:World,((VeA fun t=>(fun a:Nat=>Value.int IntKind.u8 (a:Int))<$>Rtype.kind t) #[.pointer (some ⟨13,E,none⟩)]).run prog w= .ok (.int .u8 22) w
 nl:∀(a p:Addr) (W:World),W.cell? a=some (.pointer (some p))->(Vew (Vev "reflectlite.Value.IsNil" 0) Vex #[.agg #[.pointer (some ⟨13,P,none⟩),.pointer (some a),.int .u64 150]]).run prog W= .ok (.bool false) W
 el:∀w:World,(VeB VeC #[.agg #[.pointer (some ⟨13,P,none⟩)]]).run prog w= .ok (.iface 286 (.agg #[.pointer (some ⟨13,E,none⟩)])) w
 im:∀w:World,(VeD "Implements" VeE #[.agg #[.pointer (some ⟨13,E,none⟩)],.iface 286 (.agg #[.pointer (some ⟨13,72,none⟩)])]).run prog w= .ok (.bool true) w
structure Er0(E:TypeId):Prop where
 to:∀(v:Value) (w:World),(VeF #[.iface E v]).run prog w= .ok (.iface 286 (.agg #[.pointer (some ⟨13,E,none⟩)])) w
 na:∀(v:Value) (xT:TypeId) (w:World),(Instr.typeAssert (.iface E v) xT 290 true).run prog w= .ok (.tuple #[.nilIface,.bool false]) w
structure Er(E:TypeId):Prop where
 z:Er0 E
 nu:∀(v:Value) (xT:TypeId) (w:World),(Instr.typeAssert (.iface E v) xT 203 true).run prog w= .ok (.tuple #[.nilIface,.bool false]) w
 nv:∀(v:Value) (xT:TypeId) (w:World),(Instr.typeAssert (.iface E v) xT 293 true).run prog w= .ok (.tuple #[.nilIface,.bool false]) w
theorem JkD(a:Addr)(w:World):(Vey (.agg #[.pointer (some ⟨13,138,none⟩),.pointer (some a),.int .u64 150])).run prog w= .ok (some (138,a,150)) w:=by kernel_rfl
theorem Jlq:Tg 138 136:=by
 refine⟨fun t w=> ?_,fun a w=> ?_,fun w=> ?_,fun w=> ?_,fun a p W d=> ?_,fun w=> ?_,fun w=> ?_⟩
 case refine_5=>
  rw[show∀(z:Sem Value) (f:TypeId->Addr->Nat->Nat->Sem Value) (v:Value),Vew z f #[v]=(Vey v>>=_)from fun _ _ _=>rfl];simp only[Va8,JkD,VeH];simp[Vex,loadVar,isAgg,underlying,underlying138,d,VeH]
 all_goals kernel_rfl
theorem JgA(a:Addr)(w:World):(Vey (.agg #[.pointer (some ⟨13,143,none⟩),.pointer (some a),.int .u64 150])).run prog w= .ok (some (143,a,150)) w:=by kernel_rfl
theorem Jlr:Tg 143 134:=by
 refine⟨fun t w=> ?_,fun a w=> ?_,fun w=> ?_,fun w=> ?_,fun a p W d=> ?_,fun w=> ?_,fun w=> ?_⟩
 case refine_5=>
  rw[show∀(z:Sem Value) (f:TypeId->Addr->Nat->Nat->Sem Value) (v:Value),Vew z f #[v]=(Vey v>>=_)from fun _ _ _=>rfl];simp only[Va8,JgA,VeH];simp[Vex,loadVar,isAgg,underlying,underlying143,d,VeH]
 all_goals kernel_rfl
theorem JgB(a:Addr)(w:World):(Vey (.agg #[.pointer (some ⟨13,146,none⟩),.pointer (some a),.int .u64 150])).run prog w= .ok (some (146,a,150)) w:=by kernel_rfl
theorem Jol:Tg 146 135:=by
 refine⟨fun t w=> ?_,fun a w=> ?_,fun w=> ?_,fun w=> ?_,fun a p W d=> ?_,fun w=> ?_,fun w=> ?_⟩
 case refine_5=>
  rw[show∀(z:Sem Value) (f:TypeId->Addr->Nat->Nat->Sem Value) (v:Value),Vew z f #[v]=(Vey v>>=_)from fun _ _ _=>rfl];simp only[Va8,JgB,VeH];simp[Vex,loadVar,isAgg,underlying,underlying146,d,VeH]
 all_goals kernel_rfl
theorem JnX:Er 134:=⟨⟨fun v w=>by kernel_rfl,run_typeAssert_lacksB VdY (by kernel_rfl) (by kernel_rfl)⟩,run_typeAssert_lacksB Vc8 (by kernel_rfl) (by kernel_rfl),run_typeAssert_lacksB Vc7 (by kernel_rfl) (by kernel_rfl)⟩
theorem JoL:Er 407:=⟨⟨fun v w=>by kernel_rfl,run_typeAssert_lacksB VdY (by kernel_rfl) (by kernel_rfl)⟩,run_typeAssert_lacksB Vc8 (by kernel_rfl) (by kernel_rfl),run_typeAssert_lacksB Vc7 (by kernel_rfl) (by kernel_rfl)⟩
theorem JjN:Er 135:=⟨⟨fun v w=>by kernel_rfl,run_typeAssert_lacksB VdY (by kernel_rfl) (by kernel_rfl)⟩,run_typeAssert_lacksB Vc8 (by kernel_rfl) (by kernel_rfl),run_typeAssert_lacksB Vc7 (by kernel_rfl) (by kernel_rfl)⟩
def NoA(E F:TypeId):Prop:=∀w:World,(VeD "AssignableTo" VeG #[.agg #[.pointer (some ⟨13,E,none⟩)],.iface 286 (.agg #[.pointer (some ⟨13,F,none⟩)])]).run prog w= .ok (.bool false) w
variable {P E F:TypeId}
theorem Jdz(T:Tg P F)(R:Er E)(G:NoA E F)(a t:Addr)(w:World)(d:w.cell? ⟨8,0,none⟩=some (.iface 286 (.agg #[.pointer (some ⟨13,72,none⟩)]))):
  Calls prog 71 #[.iface E (.pointer (some a)),.iface P (.pointer (some t))] w fun I w'=>I= .returned (.bool false)/\w'=((w.alloc (.cells #[.pointer (some t)] P)).alloc (.cells #[.pointer (some ⟨13,P,none⟩),.pointer (some ⟨w.heap.size,0,none⟩),.int .u64 150] 193)).alloc (.cells #[.pointer (some ⟨13,P,none⟩),.pointer (some ⟨w.heap.size,0,none⟩),.int .u64 150] 193):=by
 have L:= @VaJ prog 102 _ (fun args=>Vet (args.getD 0 (.tuple #[]))) func102 (by kernel_rfl) (by kernel_rfl) (by kernel_rfl) (by kernel_rfl);have h7:= @VaJ prog 103 _ (Veu (Vev "reflectlite.Value.Type" 0) (fun t _ _ _=>Vez t)) func103 (by kernel_rfl) (by kernel_rfl) (by kernel_rfl) (by kernel_rfl);have h8:= @VaJ prog 104 _ (Vew (Vev "reflectlite.Value.IsNil" 0) Vex) func104 (by kernel_rfl) (by kernel_rfl) (by kernel_rfl) (by kernel_rfl);have aa:= @VaJ prog 268 _ (VeA fun t=>do pure (.int .u8 (<-Rtype.kind t))) func268 (by kernel_rfl) (by kernel_rfl) (by kernel_rfl) (by kernel_rfl);have af:= @VaJ prog 288 _ (VeB VeC) func288 (by kernel_rfl) (by kernel_rfl) (by kernel_rfl) (by kernel_rfl);have W:= @VaJ prog 289 _ (VeD "Implements" VeE) func289 (by kernel_rfl) (by kernel_rfl) (by kernel_rfl) (by kernel_rfl);have ag:= @VaJ prog 106 _ VeF Vee (by kernel_rfl) (by kernel_rfl) (by kernel_rfl) (by kernel_rfl);have Z:= @VaJ prog 286 _ (VeD "AssignableTo" VeG) func286 (by kernel_rfl) (by kernel_rfl) (by kernel_rfl) (by kernel_rfl);have V:=Ia6;have M:=Ia9;have mE:=Ia7;have mI:=Ia8;obtain⟨f6,U,ac,O,h,ae,J⟩:=T;obtain⟨⟨tO,nA⟩,nU,nV⟩:=R;have n8:=h ⟨w.heap.size,0,none⟩ t ((w.alloc (.cells #[.pointer (some t)] P)).alloc (.cells #[.pointer (some ⟨13,P,none⟩),.pointer (some ⟨w.heap.size,0,none⟩),.int .u64 150] 193)) (by simp);have D:8<w.heap.size:=Vaw _ _ d
 have Y:((w.alloc (.cells #[.pointer (some t)] P)).alloc (.cells #[.pointer (some ⟨13,P,none⟩),.pointer (some ⟨w.heap.size,0,none⟩),.int .u64 150] 193)).cell? ⟨8,0,none⟩=some (.iface 286 (.agg #[.pointer (some ⟨13,72,none⟩)])):=by
  rw[Vbt _ _ ⟨8,0,none⟩ (by simp;omega),Vbt _ _ ⟨8,0,none⟩ D];exact d
 clear h;unfold NoA at G
 go_enter func71,ntmps71
 go_wp2
 refine VaO 1 ?_
 rw[VaB]
 go_wp2
 go_ret
 exact⟨rfl,rfl⟩
theorem JiZ:NoA 134 136:=fun w=>by kernel_rfl
theorem Jkq:NoA 407 136:=fun w=>by kernel_rfl
theorem Jkr:NoA 407 134:=fun w=>by kernel_rfl
theorem Jks:NoA 407 135:=fun w=>by kernel_rfl
theorem Ji0:NoA 135 136:=fun w=>by kernel_rfl
theorem Ji1:NoA 135 134:=fun w=>by kernel_rfl
end Go.Proofs.YtleenphlgbklmaaGreatDoor
