import Derived.Test.YtleenphlgbklmaaGreatDoorACPCk
set_option linter.unusedVariables false
set_option linter.unusedSimpArgs false
set_option maxRecDepth 100000
set_option maxHeartbeats 8000000
namespace Go.Proofs.YtleenphlgbklmaaGreatDoor
open Go.RowKit
open Kept renaming drew → Vet
open XKeep renaming kept → Veu
open Tryz
variable {w:World}{p:Option Addr}{gm eb dpt:Nat}{r:Option (Nat×BA)}{ad:List Nat}{vx:Value}
theorem c_num:Calls prog 126 #[.iface 263 (.pointer (some ⟨eb,0,none⟩)),.agg #[.pointer p,.map (some gm)]] w (ChO w none):=by
 have D:=fun W=>IcO (.pointer (some ⟨eb,0,none⟩)) W
 have I:=fun W=>IcL (.pointer (some ⟨eb,0,none⟩)) W
 have J:=fun W=>IcM (.pointer (some ⟨eb,0,none⟩)) W
 have h:=fun W=>IcN (.pointer (some ⟨eb,0,none⟩)) W
 have G:=fun W=>IcR (.pointer (some ⟨eb,0,none⟩)) W
 have L:=fun W=>IcK (.pointer (some ⟨eb,0,none⟩)) W
 have E:=fun W=>IcQ (.pointer (some ⟨eb,0,none⟩)) W
 have d:Hid (ChO w none (.returned (.tuple #[])) (w.alloc (.cells #[.pointer p,.map (some gm)] 244))):=⟨Kept.alloc _ _,rfl⟩
 go_enter Vcf,Vb4
 go_wp2
 exact Vbi (Va3 Vb0 _ _ _) rfl d.out
variable {gv:Gv}{f:X->List Bd->Option (Option (Nat×BA))}{m:BA}{x:X}{own:List Bd}
theorem c_fun(hf:SCk gv f)(aa:f x (⟨m,.int,false⟩::own)=some r)(Y:CI w ad own gv p gm)(T:w.heap[eb]? =some (.cells #[.int .i64 dpt,.string m,vx] 268 (0,0)))(M:PX w (fun _=>True) x vx):
  Calls prog 126 #[.iface 266 (.pointer (some ⟨eb,0,none⟩)),.agg #[.pointer p,.map (some gm)]] w (ChO w r):=by
 have q0:=fun W=>Icl (.pointer (some ⟨eb,0,none⟩)) W
 have q1:=fun W=>Ici (.pointer (some ⟨eb,0,none⟩)) W
 obtain⟨hF,V⟩:=JbA w eb p gm T;obtain⟨D,G,rfl⟩:=M.iface
 go_enter Vcf,Vb4
 go_wp2_with fail
 clear q0 q1;generalize w.alloc (.cells #[.pointer p,.map (some gm)] 244)=W at*;have Z:Kept w W.drew:=V.trans (Vet W);have hF:=hF.kept (Vet W)
 have HC:Hid (Calls prog 166 #[.agg #[.pointer p,.map (some gm)],.string m,.nilIface] W.drew fun e h=>∃q,e= .returned (.agg #[.pointer (some ⟨q,0,none⟩),.map (some gm)])/\h.cell? ⟨w.heap.size,0,none⟩=some (.pointer p)/\h.cell? ⟨w.heap.size,1,none⟩=some (.map (some gm))/\h.cell? ⟨eb,1,none⟩=some (.string m)/\h.cell? ⟨eb,2,none⟩=some (.iface D G)/\
   Hid (Calls prog 126 #[.iface D G,.agg #[.pointer (some ⟨q,0,none⟩),.map (some gm)]] h fun e d=>(∃b,e=thrown (.iface 135 (.pointer (some ⟨b,0,none⟩)))/\ChO w r (thrown (.iface 135 (.pointer (some ⟨b,0,none⟩)))) d)\/(e= .returned (.tuple #[])/\d.cell? ⟨w.heap.size,0,none⟩=some (.pointer p)/\d.cell? ⟨w.heap.size,1,none⟩=some (.map (some gm))/\d.cell? ⟨eb,1,none⟩=some (.string m)/\d.cell? ⟨eb,2,none⟩=some (.iface D G)/\Hid (ChO w r (.returned (.tuple #[])) d)))):=by
  refine(Jf2 W.drew p gm m).mono ?_
  rintro e h ⟨q,rfl,hq,O⟩;have I:=hF.kept O;have L:=Z.trans O;refine⟨q,rfl,I.c.1,I.c.2,I.x (i:=1) rfl,I.x (i:=2) rfl,?_⟩
  refine(hf x _ r aa h ad _ _ gm (M.keepT (Veu L)) ((Y.kept L).with hq)).mono ?_
  intro e d E
  rcases E.split with⟨q,b,rfl,rfl,E⟩|⟨rfl,rfl,U⟩
  .exact .inl ⟨b,rfl,E.pre L⟩
  .have J:=I.kept U;exact .inr ⟨rfl,J.c.1,J.c.2,J.x (i:=1) rfl,J.x (i:=2) rfl,L.trans U,rfl⟩
 obtain⟨c0,c1⟩:=hF.c;have c2:=hF.x (i:=1) (v:= .string m) rfl;have c3:=hF.x (i:=2) (v:= .iface D G) rfl;clear Y hF V Z M hf aa T
 go_region_held2 (fun w'=>w'.cell? ⟨w.heap.size,0,none⟩=some (.pointer p)/\w'.cell? ⟨w.heap.size,1,none⟩=some (.map (some gm))/\w'.cell? ⟨eb,1,none⟩=some (.string m)/\w'.cell? ⟨eb,2,none⟩=some (.iface D G)) (go_keep) (first|(go_at_call 166;refine Vac HC.out ?_;rintro e h ⟨q,rfl,d0,d1,d2,d3,HD⟩;clear HC)|(go_at_call 126;refine Vac HD.out ?_;rintro e d (⟨a,rfl,E⟩|⟨rfl,f0,f1,f2,f3,HR⟩);exact⟨rfl,E⟩;clear HD))
 all_goals
  go_wp2
  exact Vbi (Va3 Vb0 _ _ _) rfl HR.out
variable {y:X}{vy:Value}
theorem c_let(hf:SCk gv f)(h:sqF (f x own) (f y (⟨m,.int,false⟩::own))=some r)(hT:CI w ad own gv p gm)(hb:w.heap[eb]? =some (.cells #[.int .i64 dpt,.string m,vx,vy] 273 (0,0)))(hx:PX w (fun _=>True) x vx)(hy:PX w (fun _=>True) y vy):
  Calls prog 126 #[.iface 271 (.pointer (some ⟨eb,0,none⟩)),.agg #[.pointer p,.map (some gm)]] w (ChO w r):=by
 have q0:=fun W=>Icz (.pointer (some ⟨eb,0,none⟩)) W
 have q1:=fun W=>Icw (.pointer (some ⟨eb,0,none⟩)) W
 have q2:=fun W=>Icx (.pointer (some ⟨eb,0,none⟩)) W
 have q3:=fun W=>Icy (.pointer (some ⟨eb,0,none⟩)) W
 simp only[sqF,Vab]at h;obtain⟨r1,h1,h⟩:=h;obtain⟨hF,ae⟩:=JbA w eb p gm hb;obtain⟨M,Y,rfl⟩:=hx.iface;obtain⟨Ty,L,rfl⟩:=hy.iface
 go_enter Vcf,Vb4
 go_wp2_with fail
 clear q0 q1 q2 q3;generalize w.alloc (.cells #[.pointer p,.map (some gm)] 244)=W at*;have I:Kept w W.drew:=ae.trans (Vet W);have hF:=hF.kept (Vet W)
 have U:Hid (Calls prog 126 #[.iface M Y,.agg #[.pointer p,.map (some gm)]] W.drew fun e d=>(∃b,e=thrown (.iface 135 (.pointer (some ⟨b,0,none⟩)))/\ChO w r (thrown (.iface 135 (.pointer (some ⟨b,0,none⟩)))) d)\/(e= .returned (.tuple #[])/\d.cell? ⟨w.heap.size,0,none⟩=some (.pointer p)/\d.cell? ⟨w.heap.size,1,none⟩=some (.map (some gm))/\d.cell? ⟨eb,2,none⟩=some (.iface M Y)/\Hid (r1=none/\Kept w d/\FC d w.heap.size eb p gm #[.int .i64 dpt,.string m,.iface M Y,.iface Ty L] 273))):=by
  refine(hf x own r1 h1 W.drew ad _ p gm (hx.keepT (Veu I)) (hT.kept I)).mono ?_
  intro e d D
  rcases D.split with⟨q,b,rfl,rfl,D⟩|⟨rfl,rfl,O⟩
  .simp only[Vaa]at h;subst h;exact .inl ⟨b,rfl,D.pre I⟩
  .have J:=hF.kept O;exact .inr ⟨rfl,J.c.1,J.c.2,J.x (i:=2) rfl,rfl,I.trans O,J⟩
 obtain⟨c0,c1⟩:=hF.c;have c2:=hF.x (i:=2) (v:= .iface M Y) rfl;have HT:Hid _:=hT;have ag:Hid _:=hf;have HH:Hid _:=h;have HY:Hid _:=hy;clear hT hF ae I hx hy h1 hf h hb
 go_region_held2 (fun w'=>w'.cell? ⟨w.heap.size,0,none⟩=some (.pointer p)/\w'.cell? ⟨w.heap.size,1,none⟩=some (.map (some gm))/\w'.cell? ⟨eb,2,none⟩=some (.iface M Y)) (go_keep) (first|(go_at_call 126;refine Vac U.out ?_;rintro e d (⟨a,rfl,D⟩|⟨rfl,d0,d1,d2,HR⟩);exact⟨rfl,D⟩;clear U))
 all_goals
  obtain⟨rfl,ac,J⟩:=HR.out;have I:Kept w d.drew:=ac.trans (Vet d);have T:=J.kept (Vet d)
  have U:Hid (Calls prog 166 #[.agg #[.pointer p,.map (some gm)],.string m,.nilIface] d.drew fun e G=>∃q,e= .returned (.agg #[.pointer (some ⟨q,0,none⟩),.map (some gm)])/\G.cell? ⟨w.heap.size,0,none⟩=some (.pointer p)/\G.cell? ⟨w.heap.size,1,none⟩=some (.map (some gm))/\G.cell? ⟨eb,1,none⟩=some (.string m)/\G.cell? ⟨eb,3,none⟩=some (.iface Ty L)/\
    Hid (Calls prog 126 #[.iface Ty L,.agg #[.pointer (some ⟨q,0,none⟩),.map (some gm)]] G fun e E=>(∃b,e=thrown (.iface 135 (.pointer (some ⟨b,0,none⟩)))/\ChO w r (thrown (.iface 135 (.pointer (some ⟨b,0,none⟩)))) E)\/(e= .returned (.tuple #[])/\E.cell? ⟨w.heap.size,0,none⟩=some (.pointer p)/\E.cell? ⟨w.heap.size,1,none⟩=some (.map (some gm))/\E.cell? ⟨eb,1,none⟩=some (.string m)/\E.cell? ⟨eb,3,none⟩=some (.iface Ty L)/\Hid (ChO w r (.returned (.tuple #[])) E)))):=by
   refine(Jf2 d.drew p gm m).mono ?_
   rintro e G ⟨q,rfl,hq,af⟩;have V:=T.kept af;have aa:=I.trans af;refine⟨q,rfl,V.c.1,V.c.2,V.x (i:=1) rfl,V.x (i:=3) rfl,?_⟩
   refine(ag.out y _ r HH.out G ad _ _ gm (PX.keepT (Veu aa) HY.out) ((HT.out.kept aa).with hq)).mono ?_
   intro e E D
   rcases D.split with⟨q,b,rfl,rfl,D⟩|⟨rfl,rfl,O⟩
   .exact .inl ⟨b,rfl,D.pre aa⟩
   .have Z:=V.kept O;exact .inr ⟨rfl,Z.c.1,Z.c.2,Z.x (i:=1) rfl,Z.x (i:=3) rfl,aa.trans O,rfl⟩
  obtain⟨c0,c1⟩:=T.c;have c2:=T.x (i:=1) (v:= .string m) rfl;have c3:=T.x (i:=3) (v:= .iface Ty L) rfl;clear ac J I T HR ag HH HT HY d0 d1 d2
  go_wp2_with fail
  go_region_held2 (fun w'=>w'.cell? ⟨w.heap.size,0,none⟩=some (.pointer p)/\w'.cell? ⟨w.heap.size,1,none⟩=some (.map (some gm))/\w'.cell? ⟨eb,1,none⟩=some (.string m)/\w'.cell? ⟨eb,3,none⟩=some (.iface Ty L)) (go_keep) (first|(go_at_call 166;refine Vac U.out ?_;rintro e G ⟨q,rfl,d0,d1,d2,d3,HD⟩;clear U)|(go_at_call 126;refine Vac HD.out ?_;rintro e E (⟨a,rfl,D⟩|⟨rfl,f0,f1,f2,f3,HR⟩);exact⟨rfl,D⟩;clear HD))
  all_goals
   go_wp2
   exact Vbi (Va3 Vb0 _ _ _) rfl HR.out
variable {z:X}{vz:Value}
theorem c_if(hf:SCk gv f)(h:sqF (f x own) (sqF (f y own) (f z own))=some r)(hT:CI w ad own gv p gm)(hb:w.heap[eb]? =some (.cells #[.int .i64 dpt,vx,vy,vz] 332 (0,0)))(hx:PX w (fun _=>True) x vx)(hy:PX w (fun _=>True) y vy)(hz:PX w (fun _=>True) z vz):
  Calls prog 126 #[.iface 269 (.pointer (some ⟨eb,0,none⟩)),.agg #[.pointer p,.map (some gm)]] w (ChO w r):=by
 have q0:=fun W=>Ics (.pointer (some ⟨eb,0,none⟩)) W
 have q1:=fun W=>Icp (.pointer (some ⟨eb,0,none⟩)) W
 have q2:=fun W=>Icq (.pointer (some ⟨eb,0,none⟩)) W
 simp only[sqF,Vab]at h;obtain⟨r1,h1,h⟩:=h;obtain⟨hF,af⟩:=JbA w eb p gm hb;obtain⟨Y,ux,rfl⟩:=hx.iface;obtain⟨Ty,uy,rfl⟩:=hy.iface;obtain⟨Z,uz,rfl⟩:=hz.iface
 go_enter Vcf,Vb4
 go_wp2_with fail
 clear q0 q1 q2;generalize w.alloc (.cells #[.pointer p,.map (some gm)] 244)=W at*;have d:Kept w W.drew:=af.trans (Vet W);have hF:=hF.kept (Vet W)
 have L:Hid (Calls prog 126 #[.iface Y ux,.agg #[.pointer p,.map (some gm)]] W.drew fun e G=>(∃b,e=thrown (.iface 135 (.pointer (some ⟨b,0,none⟩)))/\ChO w r (thrown (.iface 135 (.pointer (some ⟨b,0,none⟩)))) G)\/(e= .returned (.tuple #[])/\G.cell? ⟨w.heap.size,0,none⟩=some (.pointer p)/\G.cell? ⟨w.heap.size,1,none⟩=some (.map (some gm))/\G.cell? ⟨eb,1,none⟩=some (.iface Y ux)/\Hid (r1=none/\Kept w G/\FC G w.heap.size eb p gm #[.int .i64 dpt,.iface Y ux,.iface Ty uy,.iface Z uz] 332))):=by
  refine(hf x own r1 h1 W.drew ad _ p gm (hx.keepT (Veu d)) (hT.kept d)).mono ?_
  intro e G D
  rcases D.split with⟨q,b,rfl,rfl,D⟩|⟨rfl,rfl,J⟩
  .simp only[Vaa]at h;subst h;exact .inl ⟨b,rfl,D.pre d⟩
  .have V:=hF.kept J;exact .inr ⟨rfl,V.c.1,V.c.2,V.x (i:=1) rfl,rfl,d.trans J,V⟩
 obtain⟨c0,c1⟩:=hF.c;have c2:=hF.x (i:=1) (v:= .iface Y ux) rfl;have HT:Hid _:=hT;have ac:Hid _:=hf;have HH:Hid _:=h;have HY:Hid _:=hy;have HZ:Hid _:=hz;clear hT hF af d hx hy hz h1 hf h hb
 go_region_held2 (fun w'=>w'.cell? ⟨w.heap.size,0,none⟩=some (.pointer p)/\w'.cell? ⟨w.heap.size,1,none⟩=some (.map (some gm))/\w'.cell? ⟨eb,1,none⟩=some (.iface Y ux)) (go_keep) (first|(go_at_call 126;refine Vac L.out ?_;rintro e G (⟨a,rfl,D⟩|⟨rfl,d0,d1,d2,T⟩);exact⟨rfl,D⟩;clear L))
 all_goals
  obtain⟨rfl,ae,V⟩:=T.out;have U:=HH.out;simp only[Vab]at U;obtain⟨r2,h2,U⟩:=U;have d:Kept w G.drew:=ae.trans (Vet G);have O:=V.kept (Vet G)
  have L:Hid (Calls prog 126 #[.iface Ty uy,.agg #[.pointer p,.map (some gm)]] G.drew fun e E=>(∃b,e=thrown (.iface 135 (.pointer (some ⟨b,0,none⟩)))/\ChO w r (thrown (.iface 135 (.pointer (some ⟨b,0,none⟩)))) E)\/(e= .returned (.tuple #[])/\E.cell? ⟨w.heap.size,0,none⟩=some (.pointer p)/\E.cell? ⟨w.heap.size,1,none⟩=some (.map (some gm))/\E.cell? ⟨eb,2,none⟩=some (.iface Ty uy)/\Hid (r2=none/\Kept w E/\FC E w.heap.size eb p gm #[.int .i64 dpt,.iface Y ux,.iface Ty uy,.iface Z uz] 332))):=by
   refine(ac.out y own r2 h2 G.drew ad _ p gm (PX.keepT (Veu d) HY.out) (HT.out.kept d)).mono ?_
   intro e E D
   rcases D.split with⟨q,b,rfl,rfl,D⟩|⟨rfl,rfl,J⟩
   .simp only[Vaa]at U;subst U;exact .inl ⟨b,rfl,D.pre d⟩
   .have I:=O.kept J;exact .inr ⟨rfl,I.c.1,I.c.2,I.x (i:=2) rfl,rfl,d.trans J,I⟩
  obtain⟨c0,c1⟩:=O.c;have c2:=O.x (i:=2) (v:= .iface Ty uy) rfl;have ag:Hid _:=U;clear ae V d O T HH HY d0 d1 d2 U h2
  go_wp2_with fail
  go_region_held2 (fun w'=>w'.cell? ⟨w.heap.size,0,none⟩=some (.pointer p)/\w'.cell? ⟨w.heap.size,1,none⟩=some (.map (some gm))/\w'.cell? ⟨eb,2,none⟩=some (.iface Ty uy)) (go_keep) (first|(go_at_call 126;refine Vac L.out ?_;rintro e E (⟨a,rfl,D⟩|⟨rfl,d0,d1,d2,T⟩);exact⟨rfl,D⟩;clear L))
  all_goals
   obtain⟨rfl,ah,O⟩:=T.out;have d:Kept w E.drew:=ah.trans (Vet E);have I:=O.kept (Vet E)
   have L:Hid (Calls prog 126 #[.iface Z uz,.agg #[.pointer p,.map (some gm)]] E.drew fun e M=>(∃b,e=thrown (.iface 135 (.pointer (some ⟨b,0,none⟩)))/\ChO w r (thrown (.iface 135 (.pointer (some ⟨b,0,none⟩)))) M)\/(e= .returned (.tuple #[])/\M.cell? ⟨w.heap.size,0,none⟩=some (.pointer p)/\M.cell? ⟨w.heap.size,1,none⟩=some (.map (some gm))/\M.cell? ⟨eb,3,none⟩=some (.iface Z uz)/\Hid (ChO w r (.returned (.tuple #[])) M))):=by
    refine(ac.out z own r ag.out E.drew ad _ p gm (PX.keepT (Veu d) HZ.out) (HT.out.kept d)).mono ?_
    intro e M D
    rcases D.split with⟨q,b,rfl,rfl,D⟩|⟨rfl,rfl,J⟩
    .exact .inl ⟨b,rfl,D.pre d⟩
    .have aa:=I.kept J;exact .inr ⟨rfl,aa.c.1,aa.c.2,aa.x (i:=3) rfl,d.trans J,rfl⟩
   obtain⟨c0,c1⟩:=I.c;have c2:=I.x (i:=3) (v:= .iface Z uz) rfl;clear ah O d I T ac ag HT HZ d0 d1 d2
   go_wp2_with fail
   go_region_held2 (fun w'=>w'.cell? ⟨w.heap.size,0,none⟩=some (.pointer p)/\w'.cell? ⟨w.heap.size,1,none⟩=some (.map (some gm))/\w'.cell? ⟨eb,3,none⟩=some (.iface Z uz)) (go_keep) (first|(go_at_call 126;refine Vac L.out ?_;rintro e M (⟨a,rfl,D⟩|⟨rfl,d0,d1,d2,T⟩);exact⟨rfl,D⟩;clear L))
   all_goals
    go_wp2
    exact Vbi (Va3 Vb0 _ _ _) rfl T.out
variable {n:BA}{loc:Nat}
theorem Jjz(L:CI w ad own gv p gm)(G:w.heap[eb]? =some (.cells #[.int .i64 1,.string n,.int .i64 loc] 262 (0,0)))(T:(JaJ n gv own).isSome=true):
  Calls prog 126 #[.iface 257 (.pointer (some ⟨eb,0,none⟩)),.agg #[.pointer p,.map (some gm)]] w (ChO w (none)):=by
 have U:=fun W=>IcG (.pointer (some ⟨eb,0,none⟩)) W
 obtain⟨hF,J⟩:=JbA w eb p gm G
 go_enter Vcf,Vb4
 go_wp2_with fail
 clear U;generalize w.alloc (.cells #[.pointer p,.map (some gm)] 244)=W at*;have D:Kept w W.drew:=J.trans (Vet W);have hF:=hF.kept (Vet W)
 have O:Hid (Calls prog 165 #[.agg #[.pointer p,.map (some gm)],.string n] W.drew fun e d=>∃v,e= .returned (.tuple #[v,.bool true])/\d.cell? ⟨w.heap.size,0,none⟩=some (.pointer p)/\d.cell? ⟨w.heap.size,1,none⟩=some (.map (some gm))/\d.cell? ⟨eb,1,none⟩=some (.string n)/\d.cell? ⟨eb,2,none⟩=some (.int .i64 loc)/\Hid (Kept w d/\FC d w.heap.size eb p gm #[.int .i64 1,.string n,.int .i64 loc] 262)):=by
  refine(JjR (L.kept D) n).mono ?_
  rintro e d ⟨I,v,rfl⟩;have h:=hF.kept I;rw[T];exact⟨v,rfl,h.c.1,h.c.2,h.x (i:=1) rfl,h.x (i:=2) rfl,D.trans I,h⟩
 obtain⟨c0,c1⟩:=hF.c;have c2:=hF.x (i:=1) (v:= .string n) rfl;have c3:=hF.x (i:=2) (v:= .int .i64 loc) rfl;clear L hF J D G T
 go_region_held2 (fun w'=>w'.cell? ⟨w.heap.size,0,none⟩=some (.pointer p)/\w'.cell? ⟨w.heap.size,1,none⟩=some (.map (some gm))/\w'.cell? ⟨eb,1,none⟩=some (.string n)/\w'.cell? ⟨eb,2,none⟩=some (.int .i64 loc)) (go_keep) (first|(go_at_call 165;refine Vac O.out ?_;rintro e d ⟨v,rfl,d0,d1,Y,Z,M⟩;clear O))
 all_goals
  obtain⟨E,h⟩:=M.out;have V:Hid (ChO w none (.returned (.tuple #[])) d):=⟨E,rfl⟩
  clear E h M
  go_wp2
  exact Vbi (Va3 Vb0 _ _ _) rfl V.out
theorem Jjy(Z:CI w ad own gv p gm)(hn:n.size<=1000000)(U:w.heap[eb]? =some (.cells #[.int .i64 1,.string n,.int .i64 loc] 262 (0,0)))(hf:(JaJ n gv own).isSome=false):
  Calls prog 126 #[.iface 257 (.pointer (some ⟨eb,0,none⟩)),.agg #[.pointer p,.map (some gm)]] w (ChO w (some (loc,n))):=by
 have q0:=fun W=>IcG (.pointer (some ⟨eb,0,none⟩)) W
 obtain⟨hF,Y⟩:=JbA w eb p gm U
 go_enter Vcf,Vb4
 go_wp2_with fail
 clear q0;generalize w.alloc (.cells #[.pointer p,.map (some gm)] 244)=W at*;have E:Kept w W.drew:=Y.trans (Vet W);have hF:=hF.kept (Vet W)
 have I:Hid (Calls prog 165 #[.agg #[.pointer p,.map (some gm)],.string n] W.drew fun e d=>∃v,e= .returned (.tuple #[v,.bool false])/\d.cell? ⟨w.heap.size,0,none⟩=some (.pointer p)/\d.cell? ⟨w.heap.size,1,none⟩=some (.map (some gm))/\d.cell? ⟨eb,1,none⟩=some (.string n)/\d.cell? ⟨eb,2,none⟩=some (.int .i64 loc)/\Hid (Kept w d/\FC d w.heap.size eb p gm #[.int .i64 1,.string n,.int .i64 loc] 262)):=by
  refine(JjR (Z.kept E) n).mono ?_
  rintro e d ⟨V,v,rfl⟩;have h:=hF.kept V;rw[hf];exact⟨v,rfl,h.c.1,h.c.2,h.x (i:=1) rfl,h.x (i:=2) rfl,E.trans V,h⟩
 obtain⟨c0,c1⟩:=hF.c;have c2:=hF.x (i:=1) (v:= .string n) rfl;have c3:=hF.x (i:=2) (v:= .int .i64 loc) rfl;have HN:Hid _:=hn;clear Z hF Y E U hn hf
 go_region_held2 (fun w'=>w'.cell? ⟨w.heap.size,0,none⟩=some (.pointer p)/\w'.cell? ⟨w.heap.size,1,none⟩=some (.map (some gm))/\w'.cell? ⟨eb,1,none⟩=some (.string n)/\w'.cell? ⟨eb,2,none⟩=some (.int .i64 loc)) (go_keep) (first|(go_at_call 165;refine Vac I.out ?_;rintro e d ⟨v,rfl,d0,d1,M,O,L⟩;clear I))
 all_goals
  obtain⟨T,h⟩:=L.out;clear L d0 d1 M O;have E:Kept w d.drew:=T.trans (Vet d);have J:=h.kept (Vet d);have M:=J.x (i:=1) (v:= .string n) rfl;have O:=J.x (i:=2) (v:= .int .i64 loc) rfl
  have I:Hid (Calls prog 149 #[.string n] d.drew fun e D=>e= .returned (.string n)/\D.cell? ⟨eb,1,none⟩=some (.string n)/\D.cell? ⟨eb,2,none⟩=some (.int .i64 loc)/\
    Hid (Calls prog 99 #[.iface 135 (.pointer (some ⟨D.heap.size,0,none⟩))] (D.alloc (.cells #[.int .i64 loc,.string n] 148)) fun e G=>(∃b,e=thrown (.iface 135 (.pointer (some ⟨b,0,none⟩)))/\ChO w (some (loc,n)) (thrown (.iface 135 (.pointer (some ⟨b,0,none⟩)))) G)\/(e= .returned (.tuple #[])/\G.cell? ⟨eb,1,none⟩=some (.string n)/\G.cell? ⟨eb,2,none⟩=some (.int .i64 loc)/\Hid False))):=by
   refine(Jfj n d.drew HN.out).mono ?_
   rintro e D ⟨rfl,hB⟩;have ac:=Kept.below hB;have aa:=J.kept ac;refine⟨rfl,aa.x (i:=1) rfl,aa.x (i:=2) rfl,?_⟩
   refine(JhA ⟨D.heap.size,0,none⟩ _).mono ?_
   rintro e G ⟨rfl,rfl⟩;exact .inl ⟨_,rfl,(E.trans ac).trans (Kept.alloc _ _),_,rfl,Vag _ _⟩
  clear T h E J c0 c1 c2 c3
  go_wp2_with fail
  go_region_held2 (fun w'=>w'.cell? ⟨eb,1,none⟩=some (.string n)/\w'.cell? ⟨eb,2,none⟩=some (.int .i64 loc)) (go_keep) (first|(go_at_call 149;refine Vac I.out ?_;rintro e D ⟨rfl,e2,e3,HD⟩;clear I)|(go_at_call 99;refine Vac HD.out ?_;rintro e G (⟨a,rfl,hE⟩|⟨rfl,f2,f3,L⟩);exact⟨rfl,hE⟩;clear HD))
  all_goals
   exact L.out.elim
end Go.Proofs.YtleenphlgbklmaaGreatDoor
