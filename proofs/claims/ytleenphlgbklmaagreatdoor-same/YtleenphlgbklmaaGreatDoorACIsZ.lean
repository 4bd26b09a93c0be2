import Derived.Test.YtleenphlgbklmaaGreatDoorACBase
import Derived.LaidEql
import Derived.Stop.Asserts
import Derived.RowKitTokens
set_option linter.unusedVariables false
set_option linter.unusedSimpArgs false
set_option maxRecDepth 100000
set_option maxHeartbeats 8000000
namespace Go.Proofs.YtleenphlgbklmaaGreatDoor
open Go.RowKit Go.Extern.Stop Go.Stop Go.Extern
open Tryz
theorem IaX(v:Value)(w:World):(Extern.ReflectliteType.typeOf #[.iface 407 v]).run prog w= .ok (.iface 286 (.agg #[.pointer (some ⟨13,407,none⟩)])) w:=by kernel_rfl
theorem IaU(w:World):((Extern.ReflectliteType.method fun t=>do Rtype.noPackHeld "Comparable" t;(fun a=>Value.bool a.comparable)<$>typeInfo t) #[.agg #[.pointer (some ⟨13,407,none⟩)]]).run prog w= .ok (.bool true) w:=by kernel_rfl
theorem IaV(v:Value)(w:World):(Go.method 538 286 v "Comparable").run prog w= .ok (287,v) w:=by kernel_rfl
theorem IaT:(prog.info? 407).map (·.comparable)=some true:=by kernel_rfl
theorem IaW:(prog.info? 426).map (·.size)=some 1:=by kernel_rfl
theorem Ibt(v:Value)(d:TypeId)(w:World):(Instr.typeAssert (.iface 407 v) d 296 true).run prog w= .ok (.tuple #[.nilIface,.bool false]) w:=run_typeAssert_lacksB underlying296 (by kernel_rfl) (by kernel_rfl) v d w
theorem Ibu(v:Value)(d:TypeId)(w:World):(Instr.typeAssert (.iface 407 v) d 203 true).run prog w= .ok (.tuple #[.nilIface,.bool false]) w:=run_typeAssert_lacksB Vc8 (by kernel_rfl) (by kernel_rfl) v d w
theorem Ibv(v:Value)(d:TypeId)(w:World):(Instr.typeAssert (.iface 407 v) d 293 true).run prog w= .ok (.tuple #[.nilIface,.bool false]) w:=run_typeAssert_lacksB Vc7 (by kernel_rfl) (by kernel_rfl) v d w
theorem Jo0(a:Addr)(w:World):
  Calls prog 73 #[.iface 407 (.pointer (some a)),.iface 407 (.pointer (some a))] w fun e w'=>e= .returned (.bool true)/\w'=w:=by
 obtain⟨i,h,D⟩:=Va5.1 IaT;obtain⟨j,d,M⟩:=Va5.1 IaW;have L:= @VaJ prog 106 _ Extern.ReflectliteType.typeOf Vee (by kernel_rfl) (by kernel_rfl) (by kernel_rfl) (by kernel_rfl);have G:= @VaJ prog 287 _ (Extern.ReflectliteType.method fun t=>do Rtype.noPackHeld "Comparable" t;pure (.bool (<-typeInfo t).comparable)) func287 (by kernel_rfl) (by kernel_rfl) (by kernel_rfl) (by kernel_rfl);have tT:=IaX;have E:=IaU;have I:=IaV;have J:=run_eql_iface_ptr_same (P:=prog) w a Vcl Vb8 h D d
 go_enter func73,ntmps73
 go_wp2
 refine VaO 1 ?_
 rw[VaB]
 go_wp2
 go_ret
 exact⟨rfl,rfl⟩
theorem Jma(a b:Addr)(h d:Array Value)(L tb:TypeId)(w:World)(E:a≠b)(J:w.heap[a.block]? =some (.cells h L (0,0)))(M:w.heap[b.block]? =some (.cells d tb (0,0))):
  Calls prog 73 #[.iface 407 (.pointer (some a)),.iface 407 (.pointer (some b))] w fun e w'=>e= .returned (.bool false)/\w'=w:=by
 obtain⟨i,D,I⟩:=Va5.1 IaT;obtain⟨j,O,G⟩:=Va5.1 IaW;have W:= @VaJ prog 106 _ Extern.ReflectliteType.typeOf Vee (by kernel_rfl) (by kernel_rfl) (by kernel_rfl) (by kernel_rfl);have V:= @VaJ prog 287 _ (Extern.ReflectliteType.method fun t=>do Rtype.noPackHeld "Comparable" t;pure (.bool (<-typeInfo t).comparable)) func287 (by kernel_rfl) (by kernel_rfl) (by kernel_rfl) (by kernel_rfl);have tT:=IaX;have T:=IaU;have Y:=IaV;have U:=Ibt;have uE:=Ibu;have vE:=Ibv;have Z:=run_eql_iface_ptr_other (P:=prog) w Vcl Vb8 D I O (by rw[G];decide) E J M
 go_enter func73,ntmps73
 go_wp2
 refine VaO 1 ?_
 rw[VaB]
 go_wp2
 go_ret
 exact⟨rfl,rfl⟩
end Go.Proofs.YtleenphlgbklmaaGreatDoor
