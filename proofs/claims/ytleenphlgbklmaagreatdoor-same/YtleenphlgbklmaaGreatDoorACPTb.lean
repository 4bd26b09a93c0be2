import Derived.Test.YtleenphlgbklmaaGreatDoorACPPg
set_option linter.unusedVariables false
set_option linter.unusedSimpArgs false
set_option maxRecDepth 100000
set_option maxHeartbeats 8000000
namespace Go.Proofs.YtleenphlgbklmaaGreatDoor
open Go.RowKit
open Kept renaming alloc → Vet
open World renaming cell? → Veu, frozen? → Vev
open Tryz
variable {fl:Int}{s:BA}
theorem Jlv{em:Nat}(w:World)(R:TypeId->Value->World->Prop)(Y:∀W,Kept w W->Calls prog 69 #[.string s] W fun e w'=>∃T z,e= .returned (.tuple #[.nilIface,.iface T z])/\Kept W w'/\R T z w'):
  Calls prog 93 #[.agg #[.int .i64 fl,.nilFunc],.string s,.map (some em)] w fun e w'=>∃T z d,e= .returned (.tuple #[.nilIface,.iface T z])/\Kept w w'/\R T z d/\Kept w d/\d.heap[w.heap.size+1]? =some (.cells #[.nilIface] 156 (0,0))/\d.heap[w.heap.size+1+1]? =some (.cells #[.nilIface] 72 (0,0))/\∀k,k≠w.heap.size+1->k≠w.heap.size+1+1->w'.heap[k]? =d.heap[k]? :=by
 have O:Kept w (((w.alloc (.cells #[.int .i64 fl,.nilFunc] 172)).alloc (.cells #[.nilIface] 156)).alloc (.cells #[.nilIface] 72)):=((Vet _ _).trans (Vet _ _)).trans (Vet _ _);have e1:(w.alloc (.cells #[.int .i64 fl,.nilFunc] 172)).heap.size=w.heap.size+1:=by simp
 have e2:((w.alloc (.cells #[.int .i64 fl,.nilFunc] 172)).alloc (.cells #[.nilIface] 156)).heap.size=w.heap.size+1+1:=by simp
 have al:(((w.alloc (.cells #[.int .i64 fl,.nilFunc] 172)).alloc (.cells #[.nilIface] 156)).alloc (.cells #[.nilIface] 72)).heap[w.heap.size]? =some (.cells #[.int .i64 fl,.nilFunc] 172 (0,0)):=((Vet _ _).trans (Vet _ _)).blk (Vag _ _)
 have af:(((w.alloc (.cells #[.int .i64 fl,.nilFunc] 172)).alloc (.cells #[.nilIface] 156)).alloc (.cells #[.nilIface] 72)).heap[w.heap.size+1]? =some (.cells #[.nilIface] 156 (0,0)):=by
  rw[<-e1];exact(Vet _ _).blk (Vag _ _)
 have ac:(((w.alloc (.cells #[.int .i64 fl,.nilFunc] 172)).alloc (.cells #[.nilIface] 156)).alloc (.cells #[.nilIface] 72)).heap[w.heap.size+1+1]? =some (.cells #[.nilIface] 72 (0,0)):=by
  rw[<-e2];exact Vag _ _
 clear e1 e2;have Z:Hid _:=Y;clear Y
 go_enter_defers func93,ntmps93
 go_wp2_with fail
 generalize((w.alloc (.cells #[.int .i64 fl,.nilFunc] 172)).alloc (.cells #[.nilIface] 156)).alloc (.cells #[.nilIface] 72)=W at*;have HP:Hid _:=Z.out W O;refine Vac HP.out ?_
 rintro e d ⟨T,z,rfl,J,hR⟩;have HR:Hid _:=hR;have E:=J.blk af;have c2:=J.blk ac;have aj:Hid _:=E;have am:Hid _:=c2;have d1:d.cell? ⟨w.heap.size+1,0,none⟩=some .nilIface:=by simp[Veu,E]
 have f1:d.frozen? ⟨w.heap.size+1,0,none⟩=false:=by simp[Vev,E]
 have d2:d.cell? ⟨w.heap.size+1+1,0,none⟩=some .nilIface:=by simp[Veu,c2]
 have f2:d.frozen? ⟨w.heap.size+1+1,0,none⟩=false:=by simp[Vev,c2]
 have aa:Hid _:=O.trans J;clear HP Z J al af ac O hR
 go_wp2_with fail
 have G:(d.setCell ⟨w.heap.size+1+1,0,none⟩ (.iface T z)).heap[w.heap.size+1]? =some (.cells #[.nilIface] 156 (0,0)):=(Vaj _ _ _ _ (by show w.heap.size+1≠w.heap.size+1+1;omega)).trans E;have D:(d.setCell ⟨w.heap.size+1+1,0,none⟩ (.iface T z)).heap[w.heap.size+1+1]? =some (.cells #[.iface T z] 72 (0,0)):=by simp[World.setCell,c2,Vay]
 have ag:Kept w (d.setCell ⟨w.heap.size+1+1,0,none⟩ (.iface T z)):=aa.out.put1 (by omega) 0 _;have an:Hid (∀k,k≠w.heap.size+1+1->(d.setCell ⟨w.heap.size+1+1,0,none⟩ (.iface T z)).heap[k]? =d.heap[k]?):=fun k hk=>Vaj _ _ _ _ (by simpa using hk)
 generalize d.setCell ⟨w.heap.size+1+1,0,none⟩ (.iface T z)=V at*;clear E c2 d1 d2 f1 f2;have b1:V.cell? ⟨w.heap.size+1,0,none⟩=some .nilIface:=by simp[Veu,G]
 have b2:V.cell? ⟨w.heap.size+1+1,0,none⟩=some (.iface T z):=by simp[Veu,D]
 have z1:V.frozen? ⟨w.heap.size+1,0,none⟩=false:=by simp[Vev,G]
 have z2:V.frozen? ⟨w.heap.size+1+1,0,none⟩=false:=by simp[Vev,D]
 have aw:V.drew.cell? ⟨w.heap.size+1,0,none⟩=some .nilIface:=b1;have aq:V.drew.cell? ⟨w.heap.size+1+1,0,none⟩=some (.iface T z):=b2;have au:V.drew.frozen? ⟨w.heap.size+1,0,none⟩=false:=z1;have M:=Kept.again G;have ae:=Kept.again (M.blk D);have y2:(V.drew.setCell ⟨w.heap.size+1,0,none⟩ .nilIface).cell? ⟨w.heap.size+1+1,0,none⟩=some (.iface T z):=(Vax _ _ _ _ (by simp)).trans b2;have x2:(V.drew.setCell ⟨w.heap.size+1,0,none⟩ .nilIface).frozen? ⟨w.heap.size+1+1,0,none⟩=false:=(VcD _ _ _ _).trans z2;have L:Kept V ((V.setCell ⟨w.heap.size+1,0,none⟩ .nilIface).setCell ⟨w.heap.size+1+1,0,none⟩ (.iface T z)).drew:=(M.trans ae).trans (Kept.drew _);have ah:=L.blk G;have ai:=L.blk D;have ao:Hid _:=L;have ak:Hid (∀k,k≠w.heap.size+1->k≠w.heap.size+1+1->(((V.setCell ⟨w.heap.size+1,0,none⟩ .nilIface).setCell ⟨w.heap.size+1+1,0,none⟩ (.iface T z)).drew).heap[k]? =V.heap[k]?):=fun k U I=>(Vaj _ _ _ _ (by simpa using I)).trans (Vaj _ _ _ _ (by simpa using U))
 clear M ae L G D
 go_region
 all_goals
  go_wp2_with fail
  generalize((V.setCell ⟨w.heap.size+1,0,none⟩ .nilIface).setCell ⟨w.heap.size+1+1,0,none⟩ (.iface T z)).drew=X at*;have cp:X.cell? ⟨w.heap.size+1,0,none⟩=some .nilIface:=by simp[Veu,ah]
  have cq:X.cell? ⟨w.heap.size+1+1,0,none⟩=some (.iface T z):=by simp[Veu,ai]
  refine VbE (f:=124) (args:= #[.pointer (some ⟨w.heap.size+1,0,none⟩),.pointer (some ⟨w.heap.size+1+1,0,none⟩)]) (by simp) (by simp[go_sem]) ?_
  refine(Jei ⟨w.heap.size+1,0,none⟩ ⟨w.heap.size+1+1,0,none⟩ _).mono ?_
  rintro e u' av ⟨rfl,rfl,rfl⟩;simp[Leaves,settle,results,VdF,go_sem,cp,cq];exact⟨T,z,⟨rfl,rfl⟩,ag.trans ao.out,d,HR.out,aa.out,aj.out,am.out,fun k U I=>(ak.out k U I).trans (an.out k I)⟩
variable {A:Nat->Addr}{w:World}{kv:List (BA×BA)}{l:Nat}
theorem JqW(I:Glb A w)(hp:∀W,Glb A W->Calls prog 69 #[.string s] W fun e w'=>∃b:Nat,e= .returned (.tuple #[.nilIface,.iface 134 (.pointer (some ⟨b,0,none⟩))])/\Kept W w'/\w'.heap[b]? =some (.cells #[.int .i64 l] 145 (0,0))):HiE w kv s fl ⟨#[]⟩ (JjP 2 l ⟨#[]⟩ 0 0):=
 Jn2 (fun W em hk _=>(Jlv W (fun T z w'=>∃b:Nat,T=134/\z= .pointer (some ⟨b,0,none⟩)/\w'.heap[b]? =some (.cells #[.int .i64 l] 145 (0,0))) (fun Y L=>(hp Y ((I.kept hk).kept L)).mono (fun e w' ⟨b,E,D,d⟩=>⟨_,_,E,D,b,rfl,rfl,d⟩))).mono (fun e w' ⟨T,z,w1,E,D,⟨b,O,hz,d⟩,_,c1,c2,ho⟩=>by
  subst O hz;have U:b≠W.heap.size+1:=fun q=>by rw[q,c1]at d;simp at d
  have V:b≠W.heap.size+1+1:=fun q=>by rw[q,c2]at d;simp at d
  refine⟨_,_,E,D,fun Z G=> ?_⟩
  have aa:=G.blk ((ho b U V).trans d);exact(Jc9 Z (((I.kept hk).kept D).kept G) ⟨b,0,none⟩ l (by simp[Veu,aa])).mono (fun e w'' ⟨J,M⟩=>⟨J,Kept.below M⟩)))
variable {j:Nat}
theorem Jj8(E:Glb A w)(I:j<8)(hp:∀W,Glb A W->Calls prog 69 #[.string s] W fun e w'=>e= .returned (.tuple #[.nilIface,.iface 407 (.pointer (some (A j)))])/\Kept W w'):HiE w kv s fl ⟨#[]⟩ (JjP (Jdr j) 0 ⟨#[]⟩ 0 0):=
 Jn2 (fun W em hk _=>(Jlv W (fun T z _=>T=407/\z= .pointer (some (A j))) (fun U J=>(hp U ((E.kept hk).kept J)).mono (fun e w' ⟨D,d⟩=>⟨_,_,D,d,rfl,rfl⟩))).mono (fun e w' ⟨T,z,w1,D,d,⟨L,M⟩,_⟩=>by
  subst L M;exact⟨_,_,D,d,fun O G=>Jbs O (((E.kept hk).kept d).kept G) j I⟩))
end Go.Proofs.YtleenphlgbklmaaGreatDoor
