import Derived.Test.YtleenphlgbklmaaGreatDoorACTxV
set_option linter.unusedVariables false
set_option linter.unusedSimpArgs false
set_option maxRecDepth 100000
set_option maxHeartbeats 8000000
namespace Go.Proofs.YtleenphlgbklmaaGreatDoor
open Go.RowKit
open World renaming cell? → Vet
open Tryz
variable {w:World}
theorem Ia2(v:Value)(w:World):(Go.method 538 222 v "schemes/infer.below").run prog w= .ok (281,v) w:=by kernel_rfl
theorem Ia3(v:Value)(w:World):(Go.method 538 226 v "schemes/infer.below").run prog w= .ok (282,v) w:=by kernel_rfl
theorem Ia0(v:Value)(w:World):(Go.method 538 230 v "schemes/infer.below").run prog w= .ok (283,v) w:=by kernel_rfl
theorem Ia4(v:Value)(w:World):(Go.method 538 216 v "schemes/infer.below").run prog w= .ok (279,v) w:=by kernel_rfl
theorem Ia1(v:Value)(w:World):(Go.method 538 343 v "schemes/infer.below").run prog w= .ok (296,v) w:=by kernel_rfl
theorem Kept.drew(w:World):Kept w w.drew:=⟨rfl,rfl,Vau _,fun _ _=>rfl⟩
theorem Je3(w:World)(b:Nat)(T:TypeId)(u:Value)(d:w.heap[b]? =some (.cells #[.nilIface,.iface T u] 225 (0,0))):Calls prog 281 #[.pointer (some ⟨b,0,none⟩)] w fun e w'=>e= .returned (.slice (some ⟨w.heap.size,0,none⟩) 1 1)/\w'=w.alloc (.cells #[.iface T u] 156):=by
 have c0:w.cell? ⟨b,1,none⟩=some (.iface T u):=by simp[Vet,d]
 clear d
 go_enter func281,ntmps281
 go_wp2
 go_ret
 exact⟨rfl,rfl⟩
theorem Je4(w:World)(b:Nat)(T:TypeId)(u:Value)(h:TypeId)(d:Value)(D:w.heap[b]? =some (.cells #[.nilIface,.iface T u,.iface h d] 229 (0,0))):Calls prog 282 #[.pointer (some ⟨b,0,none⟩)] w fun e w'=>e= .returned (.slice (some ⟨w.heap.size,0,none⟩) 2 2)/\∃n,w'=(w.drewN n).alloc (.cells #[.iface T u,.iface h d] 156):=by
 have c0:w.cell? ⟨b,1,none⟩=some (.iface T u):=by simp[Vet,D]
 have E:w.cell? ⟨b,2,none⟩=some (.iface h d):=by simp[Vet,D]
 clear D
 go_enter func282,ntmps282
 go_wp2
 go_region
 go_wp2
 go_ret
 exact⟨rfl,1,rfl⟩
theorem Jf7(w:World)(b:Nat)(T:TypeId)(u:Value)(h:TypeId)(d:Value)(D:w.heap[b]? =some (.cells #[.nilIface,.iface T u,.iface h d] 233 (0,0))):Calls prog 283 #[.pointer (some ⟨b,0,none⟩)] w fun e w'=>e= .returned (.slice (some ⟨w.heap.size,0,none⟩) 2 2)/\∃n,w'=(w.drewN n).alloc (.cells #[.iface T u,.iface h d] 156):=by
 have c0:w.cell? ⟨b,1,none⟩=some (.iface T u):=by simp[Vet,D]
 have E:w.cell? ⟨b,2,none⟩=some (.iface h d):=by simp[Vet,D]
 clear D
 go_enter func283,ntmps283
 go_wp2
 go_region
 go_wp2
 go_ret
 exact⟨rfl,1,rfl⟩
theorem Kept.drewN(w:World)(n:Nat):Kept w (w.drewN n):=⟨rfl,rfl,Vau _,fun _ _=>rfl⟩
variable {w':World}{b:Nat}
theorem VBlk.kept(h:VBlk w b)(d:Kept w w'):VBlk w' b:=by
 obtain⟨s,D⟩:=h;exact⟨s,d.blk D⟩
theorem Kept.of0(h:Kp (fun _=>False) w w'):Kept w w':=⟨h.os,h.output,h.size,fun q d=>h.block q d (fun z=>z)⟩
def JcZ(n:Nat)(d:Int)(r:Int):Prop:=((n:Int)<=d->r=d-n)/\(d<n->r<0)/\ -1<=r/\r<=d
def JiK(vb:List Nat)(t:Ty):Prop:=∀(w:World) (v:Value) (d:Int),PTy w vb t v->(∀c,c∈vb->VBlk w c)->0<=d->d<=1000000->
 Calls prog 144 #[v,.int .i64 d] w fun e w'=>∃r:Int,e= .returned (.int .i64 r)/\Hid (JcZ (sz t) d r)/\ -1<=r/\r<=1000000/\Kept w w'
theorem JmX(vb:List Nat)(n:Nat)(b:Nat)(G:vb[n]? =some b)(w:World)(d:Int)(h:∀c,c∈vb->VBlk w c)(M:0<=d)(L:d<=1000000):
  Calls prog 144 #[.iface 216 (.pointer (some ⟨b,0,none⟩)),.int .i64 d] w fun e w'=>∃r:Int,e= .returned (.int .i64 r)/\Hid (JcZ (sz (.mk ⟨#[]⟩ n [])) d r)/\ -1<=r/\r<=1000000/\Kept w w':=by
 have D:Hid _:=Jcv (.var n b G) h;have e:sz (.mk ⟨#[]⟩ n [])=1:=by simp[sz,szs]
 rw[e];clear e h
 go_enter Vdb,VcW
 go_wp2_with fail
 refine Vac D.out ?_
 rintro e I ⟨rfl,J⟩;have O:=Ia4 (.pointer (some ⟨b,0,none⟩)) I;have E:Hid _:=Kept.of0 J;clear D
 go_wp2
 refine VaO 1 ?_
 rw[VaB]
 go_wp2
 go_ret
 exact⟨d-1,rfl,⟨fun _=>by omega,fun _=>by omega,by omega,by omega⟩,by omega,by omega,E.out⟩
theorem Jk7(vb:List Nat)(kd:BA)(G:kd=⟨#[105,110,116]⟩\/kd=⟨#[98,111,111,108]⟩)(w:World)(d:Int)(h:∀c,c∈vb->VBlk w c)(M:0<=d)(L:d<=1000000):
  Calls prog 144 #[.iface 343 (.agg #[.string kd]),.int .i64 d] w fun e w'=>∃r:Int,e= .returned (.int .i64 r)/\Hid (JcZ (sz (.mk kd 0 [])) d r)/\ -1<=r/\r<=1000000/\Kept w w':=by
 have D:Hid _:=Jcv (.base kd G) h;have e:sz (.mk kd 0 [])=1:=by simp[sz,szs]
 rw[e];clear e h
 go_enter Vdb,VcW
 go_wp2_with fail
 refine Vac D.out ?_
 rintro e I ⟨rfl,J⟩;have O:=Ia1 (.agg #[.string kd]) I;have E:Hid _:=Kept.of0 J;clear D
 go_wp2
 refine VaO 1 ?_
 rw[VaB]
 go_wp2
 go_ret
 exact⟨d-1,rfl,⟨fun _=>by omega,fun _=>by omega,by omega,by omega⟩,by omega,by omega,E.out.trans (Kept.alloc _ _)⟩
theorem Jk8(vb:List Nat)(a:Ty)(U:JiK vb a)(w:World)(b:Nat)(p:Value)(J:w.heap[b]? =some (.cells #[.nilIface,p] 225 (0,0)))(E:PTy w vb a p)(h:Int)(G:∀c,c∈vb->VBlk w c)(h0:0<=h)(h2:h<=1000000):
  Calls prog 144 #[.iface 222 (.pointer (some ⟨b,0,none⟩)),.int .i64 h] w fun e w'=>∃r:Int,e= .returned (.int .i64 r)/\Hid (JcZ (sz (.mk ⟨#[108,105,115,116]⟩ 0 [a])) h r)/\ -1<=r/\r<=1000000/\Kept w w':=by
 have Z:Hid _:=Jcv (.list a b p J E) G;obtain⟨T,u,rfl⟩:=E.iface;have e:sz (.mk ⟨#[108,105,115,116]⟩ 0 [a])=sz a+1:=by simp[sz,szs]
 rw[e];have ac:Hid (∀d r,Kept w d->0<=r->r<=1000000->Calls prog 144 #[.iface T u,.int .i64 r] d fun e w'=>∃D:Int,e= .returned (.int .i64 D)/\Hid (JcZ (sz a) r D)/\ -1<=D/\D<=1000000/\Kept d w'):=fun d r Y h1 h2=>U d _ r (E.keep (PKeep.kept Y)) (fun c hc=>(G c hc).kept Y) h1 h2
 generalize sz a=na at*;clear e G U E
 go_enter Vdb,VcW
 go_wp2_with fail
 refine Vac Z.out ?_
 rintro e d ⟨rfl,W⟩;have hm:=Ia2 (.pointer (some ⟨b,0,none⟩)) d;have L:=Kept.of0 W;have HB:Hid _:=Je3 d b T u (L.blk J);have I:Kept d (d.alloc (.cells #[.iface T u] 156)):=Kept.alloc _ _;have M:(d.alloc (.cells #[.iface T u] 156)).heap[d.heap.size]? =some (.cells #[.iface T u] 156 (0,0)):=Vag _ _;clear Z W J
 go_wp2_with fail
 refine Vac HB.out ?_
 rintro e w2 ⟨rfl,aa⟩;rw[<-aa]at I M;have O:=L.trans I;clear aa HB I L;have d0:w2.cell? ⟨d.heap.size,0,none⟩=some (.iface T u):=by simp[Vet,M]
 clear M
 by_cases hr:h=0
 .subst hr
  go_wp2_with fail
  refine VaO 2 ?_
  rw[VaB]
  go_wp2
  go_ret
  exact⟨-1,rfl,⟨fun _=>by omega,fun _=>by omega,by omega,by omega⟩,by omega,by omega,O⟩
 .have ai: ¬h-1<0:=by omega
  go_wp2_with fail
  refine VaO 2 ?_
  rw[VaB]
  go_wp2_with fail
  refine Vac (ac.out w2 (h-1) O (by omega) (by omega)) ?_
  rintro e w3 ⟨r,rfl,V,ah,ae,af⟩
  have HF:Hid (JcZ (na+1) h r):=by
   obtain⟨q1,q2,q3,q4⟩:=V.out;exact⟨fun ag=>by have:=q1 (by omega);omega,fun ag=>q2 (by omega),q3,by omega⟩
  clear V ac
  go_wp2
  rw[VaB]
  go_wp2
  go_ret
  exact⟨r,rfl,HF,ah,ae,O.trans af⟩
theorem Jk9(vb:List Nat)(a c:Ty)(aj:JiK vb a)(au:JiK vb c)(w:World)(b:Nat)(p q:Value)(hb:w.heap[b]? =some (.cells #[.nilIface,p,q] 229 (0,0)))(Z:PTy w vb a p)(G:PTy w vb c q)(D:Int)(L:∀c,c∈vb->VBlk w c)(h0:0<=D)(U:D<=1000000):
  Calls prog 144 #[.iface 226 (.pointer (some ⟨b,0,none⟩)),.int .i64 D] w fun e w'=>∃r:Int,e= .returned (.int .i64 r)/\Hid (JcZ (sz (.mk ⟨#[112,97,105,114]⟩ 0 [a,c])) D r)/\ -1<=r/\r<=1000000/\Kept w w':=by
 have HK:Hid _:=Jcv (.pair a c b p q hb Z G) L;obtain⟨T,u,rfl⟩:=Z.iface;obtain⟨O,Y,rfl⟩:=G.iface;have e:sz (.mk ⟨#[112,97,105,114]⟩ 0 [a,c])=sz a+sz c+1:=by simp[sz,szs]
 rw[e];have av:Hid (∀d r,Kept w d->0<=r->r<=1000000->Calls prog 144 #[.iface T u,.int .i64 r] d fun e w'=>∃E:Int,e= .returned (.int .i64 E)/\Hid (JcZ (sz a) r E)/\ -1<=E/\E<=1000000/\Kept d w'):=fun d r J h1 U=>aj d _ r (Z.keep (PKeep.kept J)) (fun c G=>(L c G).kept J) h1 U
 have ag:Hid (∀d r,Kept w d->0<=r->r<=1000000->Calls prog 144 #[.iface O Y,.int .i64 r] d fun e w'=>∃E:Int,e= .returned (.int .i64 E)/\Hid (JcZ (sz c) r E)/\ -1<=E/\E<=1000000/\Kept d w'):=fun d r J h1 U=>au d _ r (G.keep (PKeep.kept J)) (fun c G=>(L c G).kept J) h1 U
 generalize sz a=I at*;generalize sz c=nc at*;clear e L aj au Z G
 go_enter Vdb,VcW
 go_wp2_with fail
 refine Vac HK.out ?_
 rintro e d ⟨rfl,ak⟩;have hm:=Ia3 (.pointer (some ⟨b,0,none⟩)) d;have ac:=Kept.of0 ak;have HB:Hid _:=Je4 d b T u O Y (ac.blk hb);clear HK ak hb
 go_wp2_with fail
 refine Vac HB.out ?_
 rintro e V ⟨rfl,n2,ae⟩;have ai:Kept d V:=by rw[ae];exact(Kept.drewN _ _).trans (Kept.alloc _ _)
 have W:V.heap[d.heap.size]? =some (.cells #[.iface T u,.iface O Y] 156 (0,0)):=by rw[ae];exact Vag _ _
 have af:=ac.trans ai;clear ae HB ai ac;have d0:V.cell? ⟨d.heap.size,0,none⟩=some (.iface T u):=by simp[Vet,W]
 by_cases hr:D=0
 .subst hr;clear W
  go_wp2_with fail
  refine VaO 3 ?_
  rw[VaB]
  go_wp2
  go_ret
  exact⟨-1,rfl,⟨fun _=>by omega,fun _=>by omega,by omega,by omega⟩,by omega,by omega,af⟩
 .have aA: ¬D-1<0:=by omega
  go_wp2_with fail
  refine VaO 3 ?_
  rw[VaB]
  go_wp2_with fail
  refine Vac (av.out V (D-1) af (by omega) (by omega)) ?_
  rintro e w3 ⟨r,rfl,M,aq,ah,ao⟩;have an:=ao.blk W;have d1:w3.cell? ⟨d.heap.size,1,none⟩=some (.iface O Y):=by simp[Vet,an]
  have aa:=af.trans ao;have HQ:Hid (r<=D-1/\((I:Int)<=D-1->r=D-1-I)/\(D-1<I->r<0)):=⟨M.out.2.2.2,M.out.1,M.out.2.1⟩
  clear M av W an
  by_cases az:r<0
  .have HF:Hid (JcZ (I+nc+1) D r):=by
    obtain⟨q1,q2,q3⟩:=HQ.out;exact⟨fun h=>by have:=q2 (by omega);omega,fun h=>az,aq,by omega⟩
   go_wp2_with fail
   rw[VaB]
   go_wp2
   go_ret
   exact⟨r,rfl,HF,aq,ah,aa⟩
  .go_wp2_with fail
   rw[VaB]
   go_wp2_with fail
   refine Vac (ag.out w3 r aa (by omega) ah) ?_
   rintro e w4 ⟨r4,rfl,al,am,aw,ax⟩
   have HF:Hid (JcZ (I+nc+1) D r4):=by
    obtain⟨q1,q2,q3⟩:=HQ.out;obtain⟨s1,s2,s3,s4⟩:=al.out
    have ay:(I:Int)<=D-1:=by
     by_cases h:(I:Int)<=D-1
     .exact h
     .have:=q3 (by omega);omega
    have e1:=q2 ay;exact⟨fun h=>by have:=s1 (by omega);omega,fun h=>s2 (by omega),am,by omega⟩
   clear al ag HQ
   go_wp2
   rw[VaB]
   go_wp2
   go_ret
   exact⟨r4,rfl,HF,am,aw,aa.trans ax⟩
theorem JpS(vb:List Nat)(a c:Ty)(aj:JiK vb a)(au:JiK vb c)(w:World)(b:Nat)(p q:Value)(hb:w.heap[b]? =some (.cells #[.nilIface,p,q] 233 (0,0)))(Z:PTy w vb a p)(G:PTy w vb c q)(D:Int)(L:∀c,c∈vb->VBlk w c)(h0:0<=D)(U:D<=1000000):
  Calls prog 144 #[.iface 230 (.pointer (some ⟨b,0,none⟩)),.int .i64 D] w fun e w'=>∃r:Int,e= .returned (.int .i64 r)/\Hid (JcZ (sz (.mk ⟨#[102,117,110]⟩ 0 [a,c])) D r)/\ -1<=r/\r<=1000000/\Kept w w':=by
 have HK:Hid _:=Jcv (.fn a c b p q hb Z G) L;obtain⟨T,u,rfl⟩:=Z.iface;obtain⟨O,Y,rfl⟩:=G.iface;have e:sz (.mk ⟨#[102,117,110]⟩ 0 [a,c])=sz a+sz c+1:=by simp[sz,szs]
 rw[e];have av:Hid (∀d r,Kept w d->0<=r->r<=1000000->Calls prog 144 #[.iface T u,.int .i64 r] d fun e w'=>∃E:Int,e= .returned (.int .i64 E)/\Hid (JcZ (sz a) r E)/\ -1<=E/\E<=1000000/\Kept d w'):=fun d r J h1 U=>aj d _ r (Z.keep (PKeep.kept J)) (fun c G=>(L c G).kept J) h1 U
 have ag:Hid (∀d r,Kept w d->0<=r->r<=1000000->Calls prog 144 #[.iface O Y,.int .i64 r] d fun e w'=>∃E:Int,e= .returned (.int .i64 E)/\Hid (JcZ (sz c) r E)/\ -1<=E/\E<=1000000/\Kept d w'):=fun d r J h1 U=>au d _ r (G.keep (PKeep.kept J)) (fun c G=>(L c G).kept J) h1 U
 generalize sz a=I at*;generalize sz c=nc at*;clear e L aj au Z G
 go_enter Vdb,VcW
 go_wp2_with fail
 refine Vac HK.out ?_
 rintro e d ⟨rfl,ak⟩;have hm:=Ia0 (.pointer (some ⟨b,0,none⟩)) d;have ac:=Kept.of0 ak;have HB:Hid _:=Jf7 d b T u O Y (ac.blk hb);clear HK ak hb
 go_wp2_with fail
 refine Vac HB.out ?_
 rintro e V ⟨rfl,n2,ae⟩;have ai:Kept d V:=by rw[ae];exact(Kept.drewN _ _).trans (Kept.alloc _ _)
 have W:V.heap[d.heap.size]? =some (.cells #[.iface T u,.iface O Y] 156 (0,0)):=by rw[ae];exact Vag _ _
 have af:=ac.trans ai;clear ae HB ai ac;have d0:V.cell? ⟨d.heap.size,0,none⟩=some (.iface T u):=by simp[Vet,W]
 by_cases hr:D=0
 .subst hr;clear W
  go_wp2_with fail
  refine VaO 3 ?_
  rw[VaB]
  go_wp2
  go_ret
  exact⟨-1,rfl,⟨fun _=>by omega,fun _=>by omega,by omega,by omega⟩,by omega,by omega,af⟩
 .have aA: ¬D-1<0:=by omega
  go_wp2_with fail
  refine VaO 3 ?_
  rw[VaB]
  go_wp2_with fail
  refine Vac (av.out V (D-1) af (by omega) (by omega)) ?_
  rintro e w3 ⟨r,rfl,M,aq,ah,ao⟩;have an:=ao.blk W;have d1:w3.cell? ⟨d.heap.size,1,none⟩=some (.iface O Y):=by simp[Vet,an]
  have aa:=af.trans ao;have HQ:Hid (r<=D-1/\((I:Int)<=D-1->r=D-1-I)/\(D-1<I->r<0)):=⟨M.out.2.2.2,M.out.1,M.out.2.1⟩
  clear M av W an
  by_cases az:r<0
  .have HF:Hid (JcZ (I+nc+1) D r):=by
    obtain⟨q1,q2,q3⟩:=HQ.out;exact⟨fun h=>by have:=q2 (by omega);omega,fun h=>az,aq,by omega⟩
   go_wp2_with fail
   rw[VaB]
   go_wp2
   go_ret
   exact⟨r,rfl,HF,aq,ah,aa⟩
  .go_wp2_with fail
   rw[VaB]
   go_wp2_with fail
   refine Vac (ag.out w3 r aa (by omega) ah) ?_
   rintro e w4 ⟨r4,rfl,al,am,aw,ax⟩
   have HF:Hid (JcZ (I+nc+1) D r4):=by
    obtain⟨q1,q2,q3⟩:=HQ.out;obtain⟨s1,s2,s3,s4⟩:=al.out
    have ay:(I:Int)<=D-1:=by
     by_cases h:(I:Int)<=D-1
     .exact h
     .have:=q3 (by omega);omega
    have e1:=q2 ay;exact⟨fun h=>by have:=s1 (by omega);omega,fun h=>s2 (by omega),am,by omega⟩
   clear al ag HQ
   go_wp2
   rw[VaB]
   go_wp2
   go_ret
   exact⟨r4,rfl,HF,am,aw,aa.trans ax⟩
theorem JmV(vb:List Nat)(t:Ty):JiK vb t:=by
 induction t using Ty.ind with
 |h kd n kids L=>
 intro w v G h D I E
 cases h with
 |var n b d=>exact JmX vb n b d w G D I E
 |base kd O=>exact Jk7 vb kd O w G D I E
 |list a b p d J=>exact Jk8 vb a (L a (by simp)) w b p d J G D I E
 |pair a c b p q d J M=>exact Jk9 vb a c (L a (by simp)) (L c (by simp)) w b p q d J M G D I E
 |fn a c b p q d J M=>exact JpS vb a c (L a (by simp)) (L c (by simp)) w b p q d J M G D I E
variable {vb:List Nat}{t:Ty}{v:Value}
theorem JlK(h:PTy w vb t v)(d:∀c,c∈vb->VBlk w c):Calls prog 110 #[.int .i64 120,v] w fun e w'=>e= .returned (.bool (decide (120<sz t)))/\Kept w w':=by
 obtain⟨T,u,rfl⟩:=h.iface;have E:Hid _:=JmV vb t w _ 120 h d (by omega) (by omega);clear h d
 go_enter func110,ntmps110
 go_wp2_with fail
 refine Vac E.out ?_
 rintro e V ⟨r,rfl,D,W,U,I⟩
 have G:Hid (decide (r<0)=decide (120<sz t)):=by
  obtain⟨J,L,O,M⟩:=D.out;show _=_
  by_cases h:120<sz t
  .have:=L (by omega);simp[this,h]
  .have:=J (by omega);simp[h];omega
 clear E D
 go_wp2
 go_ret
 exact⟨by rw[<-G.out];rfl,I⟩
end Go.Proofs.YtleenphlgbklmaaGreatDoor
