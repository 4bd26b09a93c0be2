import Derived.Test.YtleenphlgbklmaaGreatDoorACAsG
set_option linter.unusedVariables false
set_option linter.unusedSimpArgs false
set_option maxRecDepth 100000
set_option maxHeartbeats 8000000
namespace Go.Proofs.YtleenphlgbklmaaGreatDoor
open Go.RowKit Go.Extern.Stop Go.Stop Go.Extern
open ReflectliteType renaming relation → Vet, assignableTo → Veu, toType → Vev, abiMethod → Vew, method → Vex, elem → Vey, implements_ → Vez, typeOf → VeA
open ReflectliteValue renaming unpack → VeB, method → VeC, valueError → VeD, elem → VeE, set → VeF, parts → VeG, mk → VeH, flagAddr → VeI, methodAny → VeJ, isNil → VeK
open Result renaming andThen → VeL
open Tryz
structure Hi(P S:TypeId):Prop where
 a:∀w:World,(Vet "AssignableTo" Veu #[.agg #[.pointer (some ⟨13,S,none⟩)],.iface 286 (.agg #[.pointer (some ⟨13,S,none⟩)])]).run prog w= .ok (.bool true) w
 v:∀(e:Addr) (w:World),(VeB (.iface S (.pointer (some e)))).run prog w= .ok (.agg #[.pointer (some ⟨13,S,none⟩),.pointer (some ⟨w.heap.size,0,none⟩),.int .u64 150]) (w.alloc (.cells #[.pointer (some e)] S))
 e:∀(a p:Addr) (W:World),W.cell? a=some (.pointer (some p))->(VeC (VeD "reflectlite.Value.Elem" 0) VeE #[.agg #[.pointer (some ⟨13,P,none⟩),.pointer (some a),.int .u64 150]]).run prog W= .ok (.agg #[.pointer (some ⟨13,S,none⟩),.pointer (some p),.int .u64 406]) W
 s:∀(ta b e:Addr) (old:Value) (W:World),W.cell? b=some (.pointer (some e))->W.cell? ta=some old->W.frozen? ta=false->(VeF #[.agg #[.pointer (some ⟨13,S,none⟩),.pointer (some ta),.int .u64 406],.agg #[.pointer (some ⟨13,S,none⟩),.pointer (some b),.int .u64 150]]).run prog W= .ok (.tuple #[]) (W.setCell ta (.pointer (some e)))
theorem JqX:Hi 143 134:=by
 have L:∀(a:Addr) (w:World),(VeG (.agg #[.pointer (some ⟨13,134,none⟩),.pointer (some a),.int .u64 406])).run prog w= .ok (some (134,a,406)) w:=fun a w=>by kernel_rfl
 have h:∀(a:Addr) (w:World),(VeG (.agg #[.pointer (some ⟨13,134,none⟩),.pointer (some a),.int .u64 150])).run prog w= .ok (some (134,a,150)) w:=fun a w=>by kernel_rfl
 have D:∀w:World,(Rtype.directlyAssignable 134 134).run prog w= .ok true w:=fun w=>by kernel_rfl
 have d:∀w:World,(Rtype.elem? 143).run prog w= .ok (some 134) w:=fun w=>by kernel_rfl
 have mk:∀(p:Addr) (w:World),(VeH 134 p VeI).run prog w= .ok (.agg #[.pointer (some ⟨13,134,none⟩),.pointer (some p),.int .u64 406]) w:=fun p w=>by kernel_rfl
 refine⟨fun w=>by kernel_rfl,fun e w=>by kernel_rfl,fun a p W E=> ?_,fun G b e M W I ht J=> ?_⟩
 .rw[show∀(z:Sem Value) (f:TypeId->Addr->Nat->Nat->Sem Value) (v:Value),VeC z f #[v]=(VeG v>>=_)from fun _ _ _=>rfl];simp only[Va8,JgA,VeL];simp[VeE,loadVar,isAgg,underlying,underlying143,E,VeL,d,mk]
 .rw[show∀v x:Value,VeF #[v,x]=(VeG v>>=fun p=>VeG x>>=_)from fun _ _=>rfl];simp only[Va8,L,h,VeL];simp[VeI,loadVar,isAgg,underlying,underlying134,I,VeL,D,storeVar,Value.cells,storeCells,Addr.add];rw[run_store prog W G _ _ (by rfl)];simp[ht,J]
theorem JqY:Hi 146 135:=by
 have L:∀(a:Addr) (w:World),(VeG (.agg #[.pointer (some ⟨13,135,none⟩),.pointer (some a),.int .u64 406])).run prog w= .ok (some (135,a,406)) w:=fun a w=>by kernel_rfl
 have h:∀(a:Addr) (w:World),(VeG (.agg #[.pointer (some ⟨13,135,none⟩),.pointer (some a),.int .u64 150])).run prog w= .ok (some (135,a,150)) w:=fun a w=>by kernel_rfl
 have D:∀w:World,(Rtype.directlyAssignable 135 135).run prog w= .ok true w:=fun w=>by kernel_rfl
 have d:∀w:World,(Rtype.elem? 146).run prog w= .ok (some 135) w:=fun w=>by kernel_rfl
 have mk:∀(p:Addr) (w:World),(VeH 135 p VeI).run prog w= .ok (.agg #[.pointer (some ⟨13,135,none⟩),.pointer (some p),.int .u64 406]) w:=fun p w=>by kernel_rfl
 refine⟨fun w=>by kernel_rfl,fun e w=>by kernel_rfl,fun a p W E=> ?_,fun G b e M W I ht J=> ?_⟩
 .rw[show∀(z:Sem Value) (f:TypeId->Addr->Nat->Nat->Sem Value) (v:Value),VeC z f #[v]=(VeG v>>=_)from fun _ _ _=>rfl];simp only[Va8,JgB,VeL];simp[VeE,loadVar,isAgg,underlying,underlying146,E,VeL,d,mk]
 .rw[show∀v x:Value,VeF #[v,x]=(VeG v>>=fun p=>VeG x>>=_)from fun _ _=>rfl];simp only[Va8,L,h,VeL];simp[VeI,loadVar,isAgg,underlying,underlying135,I,VeL,D,storeVar,Value.cells,storeCells,Addr.add];rw[run_store prog W G _ _ (by rfl)];simp[ht,J]
variable {P S:TypeId}
theorem JnI(T:Tg P S)(R:Er0 S)(H:Hi P S)(a t:Addr)(I:Value)(w:World)(h:w.cell? t=some I)(L:w.frozen? t=false)(D:w.cell? ⟨8,0,none⟩=some (.iface 286 (.agg #[.pointer (some ⟨13,72,none⟩)]))):
  Calls prog 71 #[.iface S (.pointer (some a)),.iface P (.pointer (some t))] w fun O w'=>O= .returned (.bool true)/\w'=((((w.alloc (.cells #[.pointer (some t)] P)).alloc (.cells #[.pointer (some ⟨13,P,none⟩),.pointer (some ⟨w.heap.size,0,none⟩),.int .u64 150] 193)).alloc (.cells #[.pointer (some ⟨13,P,none⟩),.pointer (some ⟨w.heap.size,0,none⟩),.int .u64 150] 193)).alloc (.cells #[.pointer (some a)] S)).setCell t (.pointer (some a)):=by
 have W:= @VaJ prog 102 _ (fun args=>VeB (args.getD 0 (.tuple #[]))) func102 (by kernel_rfl) (by kernel_rfl) (by kernel_rfl) (by kernel_rfl);have h7:= @VaJ prog 103 _ (VeJ (VeD "reflectlite.Value.Type" 0) (fun t _ _ _=>Vev t)) func103 (by kernel_rfl) (by kernel_rfl) (by kernel_rfl) (by kernel_rfl);have h8:= @VaJ prog 104 _ (VeC (VeD "reflectlite.Value.IsNil" 0) VeK) func104 (by kernel_rfl) (by kernel_rfl) (by kernel_rfl) (by kernel_rfl);have ag:= @VaJ prog 268 _ (Vew fun t=>do pure (.int .u8 (<-Rtype.kind t))) func268 (by kernel_rfl) (by kernel_rfl) (by kernel_rfl) (by kernel_rfl);have ak:= @VaJ prog 288 _ (Vex Vey) func288 (by kernel_rfl) (by kernel_rfl) (by kernel_rfl) (by kernel_rfl);have ac:= @VaJ prog 289 _ (Vet "Implements" Vez) func289 (by kernel_rfl) (by kernel_rfl) (by kernel_rfl) (by kernel_rfl);have am:= @VaJ prog 106 _ VeA Vee (by kernel_rfl) (by kernel_rfl) (by kernel_rfl) (by kernel_rfl);have af:= @VaJ prog 286 _ (Vet "AssignableTo" Veu) func286 (by kernel_rfl) (by kernel_rfl) (by kernel_rfl) (by kernel_rfl);have mA:=Ia6;have Y:=Ia9;have mE:=Ia7;have mI:=Ia8;obtain⟨f6,f7,ah,Z,E,ai,V⟩:=T;obtain⟨tO,nA⟩:=R;obtain⟨al,aa,G,J⟩:=H;have n8:=E ⟨w.heap.size,0,none⟩ t ((w.alloc (.cells #[.pointer (some t)] P)).alloc (.cells #[.pointer (some ⟨13,P,none⟩),.pointer (some ⟨w.heap.size,0,none⟩),.int .u64 150] 193)) (by simp);have M:8<w.heap.size:=Vaw _ _ D
 have ae:((w.alloc (.cells #[.pointer (some t)] P)).alloc (.cells #[.pointer (some ⟨13,P,none⟩),.pointer (some ⟨w.heap.size,0,none⟩),.int .u64 150] 193)).cell? ⟨8,0,none⟩=some (.iface 286 (.agg #[.pointer (some ⟨13,72,none⟩)])):=by
  rw[Vbt _ _ ⟨8,0,none⟩ (by simp;omega),Vbt _ _ ⟨8,0,none⟩ M];exact D
 have aj:= @VaJ prog 141 _ (VeC (VeD "reflectlite.Value.Elem" 0) VeE) func141 (by kernel_rfl) (by kernel_rfl) (by kernel_rfl) (by kernel_rfl);have U:= @VaJ prog 142 _ VeF func142 (by kernel_rfl) (by kernel_rfl) (by kernel_rfl) (by kernel_rfl);have d:t.block<w.heap.size:=Vaw _ _ h;have el:=G ⟨w.heap.size,0,none⟩ t (((w.alloc (.cells #[.pointer (some t)] P)).alloc (.cells #[.pointer (some ⟨13,P,none⟩),.pointer (some ⟨w.heap.size,0,none⟩),.int .u64 150] 193)).alloc (.cells #[.pointer (some ⟨13,P,none⟩),.pointer (some ⟨w.heap.size,0,none⟩),.int .u64 150] 193)) (by rw[Vbt _ _ ⟨w.heap.size,0,none⟩ (by simp;omega)];simp)
 have st:=J t ⟨w.heap.size+1+1+1,0,none⟩ a I ((((w.alloc (.cells #[.pointer (some t)] P)).alloc (.cells #[.pointer (some ⟨13,P,none⟩),.pointer (some ⟨w.heap.size,0,none⟩),.int .u64 150] 193)).alloc (.cells #[.pointer (some ⟨13,P,none⟩),.pointer (some ⟨w.heap.size,0,none⟩),.int .u64 150] 193)).alloc (.cells #[.pointer (some a)] S))
  (by rw[World.cell?_alloc_at _ _ _ _ (by simp)];rfl)
  (by rw[Vbt _ _ t (by simp;omega),Vbt _ _ t (by simp;omega),Vbt _ _ t (by simp;omega),Vbt _ _ t d];exact h)
  (by rw[Vcr _ _ t (by simp;omega),Vcr _ _ t (by simp;omega),Vcr _ _ t (by simp;omega),Vcr _ _ t (Nat.ne_of_lt d)];exact L)
 clear E G J
 go_enter func71,ntmps71
 go_wp2
 refine VaO 1 ?_
 rw[VaB]
 go_wp2
 go_ret
 exact⟨rfl,rfl⟩
end Go.Proofs.YtleenphlgbklmaaGreatDoor
