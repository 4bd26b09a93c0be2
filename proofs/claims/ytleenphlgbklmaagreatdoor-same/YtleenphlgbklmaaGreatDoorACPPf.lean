import Derived.Test.YtleenphlgbklmaaGreatDoorACPMq
set_option linter.unusedVariables false
set_option linter.unusedSimpArgs false
set_option maxRecDepth 100000
set_option maxHeartbeats 8000000
namespace Go.Proofs.YtleenphlgbklmaaGreatDoor
open Go.RowKit
open World renaming cell? → Vet
open Tryz
variable {w:World}{kv:List (BA×BA)}{nv tv:Value}{s t ss:BA}{fl what loc:Int}
theorem JmF(hn:RowS w nv (kv.map Prod.fst))(ht:RowS w tv (kv.map Prod.snd))(hd:(kv.map Prod.fst).Nodup)(hl:kv.length<=1000)
 (HI:∀W em,Kept w W->SM W em kv->Calls prog 54 #[.string s,.map (some em),.int .i64 fl] W fun e w'=>Kept W w'/\∃er,e= .returned (.tuple #[.string t,er])/\(er= .nilIface\/∃aw u,er= .iface aw u)/\∀G,Kept w' G->Calls prog 37 #[er] G fun e aB=>e= .returned (Jaa what loc ss)/\Kept G aB):
  Calls prog 26 #[.string s,nv,tv,.int .i64 fl] w fun e w'=>e= .returned (.tuple #[.string t,Jaa what loc ss,.bool false])/\Kept w w':=by
 have L:Kept w (w.alloc (.cells #[.int .i64 0,.int .i64 0,.string ⟨#[]⟩,.int .i64 0,.int .i64 0] 23)):=Kept.alloc _ _;have au:=Vag w (.cells #[.int .i64 0,.int .i64 0,.string ⟨#[]⟩,.int .i64 0,.int .i64 0] 23);have al:Hid _:=HI;have HD:Hid _:=hd;have af:=hn;have ae:=ht;obtain⟨ao,cap,g,rfl,_⟩:=hn;obtain⟨aD,cap2,g2,rfl,_⟩:=ht;simp only[Vbe]at af ae⊢;have HN:Hid _:=af;have HT:Hid _:=ae;clear HI hd af ae
 go_enter func26,ntmps26
 go_wp2_with fail
 generalize w.alloc (.cells #[.int .i64 0,.int .i64 0,.string ⟨#[]⟩,.int .i64 0,.int .i64 0] 23)=W at*;refine Vac (JnT (RowS.kept HN.out L) (RowS.kept HT.out L) HD.out hl) ?_
 rintro e w1 ⟨T,rfl,ag,Y,_⟩;have ai:=L.trans Y;have az:=Y.blk au;have aa:Hid _:=ag;have am:Hid _:=ai;have av:Hid _:=az;have HC:Hid _:=al.out w1 T ai ag;clear ag Y ai az au L al
 go_wp2_with fail
 refine Vac HC.out ?_
 rintro e G ⟨I,er,rfl,aA,hf⟩;have ac:Hid _:=(⟨I.blk aa.out.mp,aa.out.nd⟩:SM G T kv)
 have aq:Hid _:=am.out.trans I;have ax:Hid _:=I.blk av.out;have HF:Hid _:=hf;clear I hf HC am av aa
 rcases aA with rfl|⟨aw,u,rfl⟩
 all_goals
  go_wp2_with fail
  refine Vac (HF.out G (Kept.refl _)) ?_
  rintro e w3 ⟨rfl,U⟩;have V:Hid _:=aq.out.trans U;have aj:Hid _:=U.blk ax.out;have ah:Hid _:=(⟨U.blk ac.out.mp,ac.out.nd⟩:SM w3 T kv)
  have HE:Hid _:=JnT (RowS.kept HN.out V.out) (RowS.kept HT.out V.out) HD.out hl;simp only[Vbe]at HE;clear U HF aq ax ac;unfold Jaa
  go_wp2_with fail
  refine Vac HE.out ?_
  rintro e w4 ⟨m2,rfl,an,O,_⟩;have ak:Hid _:=V.out.trans O;have ay:Hid _:=O.blk aj.out;have HQ:Hid _:=Jko (⟨O.blk ah.out.mp,ah.out.nd⟩:SM w4 T kv) an;clear an O HE V aj ah
  go_wp2_with fail
  refine Vac HQ.out ?_
  rintro e E ⟨rfl,Z⟩;have M:=ak.out.trans Z;have D:=Z.blk ay.out;clear HQ Z ak ay;have c0:E.cell? ⟨w.heap.size,0,none⟩=some (.int .i64 0):=by simp[Vet,D]
  have c1:E.cell? ⟨w.heap.size,1,none⟩=some (.int .i64 0):=by simp[Vet,D]
  have c2:E.cell? ⟨w.heap.size,2,none⟩=some (.string ⟨#[]⟩):=by simp[Vet,D]
  have c3:E.cell? ⟨w.heap.size,3,none⟩=some (.int .i64 0):=by simp[Vet,D]
  have c4:E.cell? ⟨w.heap.size,4,none⟩=some (.int .i64 0):=by simp[Vet,D]
  have f0:∀j,E.frozen? ⟨w.heap.size,j,none⟩=false:=fun j=>by simp[World.frozen?,D]
  go_wp2_with fail
  obtain⟨d,J⟩:∃d,d=((((E.setCell ⟨w.heap.size,0,none⟩ (.int .i64 what)).setCell ⟨w.heap.size,1,none⟩ (.int .i64 loc)).setCell ⟨w.heap.size,2,none⟩ (.string ss)).setCell ⟨w.heap.size,3,none⟩ (.int .i64 0)).setCell ⟨w.heap.size,4,none⟩ (.int .i64 0):=⟨_,rfl⟩
  have hF:d.heap[w.heap.size]? =some (.cells #[.int .i64 what,.int .i64 loc,.string ss,.int .i64 0,.int .i64 0] 23 (0,0)):=by
   rw[J];simp[World.setCell,D,Vay]
  have aC:Kept w d:=by
   rw[J];refine⟨M.1,M.2,by simpa using M.3,fun q hq=> ?_⟩
   have e:∀(W:World) (j:Nat) (v:Value),(W.setCell ⟨w.heap.size,j,none⟩ v).heap[q]? =W.heap[q]? :=fun W j v=>Vaj _ _ _ q (by intro z;simp at z;omega)
   exact(e _ _ _).trans ((e _ _ _).trans ((e _ _ _).trans ((e _ _ _).trans ((e _ _ _).trans (M.4 q hq)))))
  rw[<-J];clear J;have d0:d.cell? ⟨w.heap.size,0,none⟩=some (.int .i64 what):=by simp[Vet,hF]
  have d1:d.cell? ⟨w.heap.size,1,none⟩=some (.int .i64 loc):=by simp[Vet,hF]
  have d2:d.cell? ⟨w.heap.size,2,none⟩=some (.string ss):=by simp[Vet,hF]
  have d3:d.cell? ⟨w.heap.size,3,none⟩=some (.int .i64 0):=by simp[Vet,hF]
  have d4:d.cell? ⟨w.heap.size,4,none⟩=some (.int .i64 0):=by simp[Vet,hF]
  exact VaI (v:= .tuple #[.string t,.agg #[.int .i64 what,.int .i64 loc,.string ss,.int .i64 0,.int .i64 0],.bool false]) (by simp[results,results26,go_sem,d0,d1,d2,d3,d4]) rfl ⟨rfl,aC⟩
end Go.Proofs.YtleenphlgbklmaaGreatDoor
