import Derived.Test.YtleenphlgbklmaaGreatDoorACPNum
import Derived.Test.YtleenphlgbklmaaGreatDoorACSmE
import Derived.Shelf.Strings.BuilderK
import Derived.Shelf.Strings.Builder2
set_option linter.unusedVariables false
set_option linter.unusedSimpArgs false
set_option maxRecDepth 100000
set_option maxHeartbeats 8000000
namespace Go.Proofs.YtleenphlgbklmaaGreatDoor
open Go.RowKit
open World renaming cell? → Vet, setCell → Veu, frozen? → Vev
open Instr renaming findAsking → Vew, findKey → Vex, findNow → Vey, mapUpdate → Vez
open Result renaming andThen → VeA
open Value renaming ownBlock → VeB
open Lib renaming IsBuilderF → VeC, BuilderAtF → VeD, strCells → VeE
open Tryz
variable {w w' a:World}{b i mb B pm:Nat}{v s fv:Value}{ad:List Nat}{S:Nat->Prop}{o:Obj}
theorem Iax(b:Nat)(w:World):(Go.method 538 222 (.pointer (some ⟨b,0,none⟩)) "schemes/infer.finding").run prog w= .ok (280,.pointer (some ⟨b,0,none⟩)) w:=by kernel_rfl
theorem Iay(b:Nat)(w:World):(Go.method 538 226 (.pointer (some ⟨b,0,none⟩)) "schemes/infer.finding").run prog w= .ok (280,.pointer (some ⟨b,0,none⟩)) w:=by kernel_rfl
theorem Iav(b:Nat)(w:World):(Go.method 538 230 (.pointer (some ⟨b,0,none⟩)) "schemes/infer.finding").run prog w= .ok (280,.pointer (some ⟨b,0,none⟩)) w:=by kernel_rfl
theorem Iaz(b:Nat)(w:World):(Go.method 538 216 (.pointer (some ⟨b,0,none⟩)) "schemes/infer.finding").run prog w= .ok (280,.pointer (some ⟨b,0,none⟩)) w:=by kernel_rfl
theorem Iaw(v:Value)(w:World):(Go.method 538 343 v "schemes/infer.finding").run prog w= .ok (297,v) w:=by kernel_rfl
theorem Jcw(T:TypeId)(b:Nat)(w:World)(h:(Go.method 538 T (.pointer (some ⟨b,0,none⟩)) "schemes/infer.finding").run prog w= .ok (280,.pointer (some ⟨b,0,none⟩)) w)(d:w.cell? ⟨b,0,none⟩=some .nilIface):
  Calls prog 182 #[.iface T (.pointer (some ⟨b,0,none⟩))] w fun e w'=>e= .returned (.iface T (.pointer (some ⟨b,0,none⟩)))/\w'=w:=by
 go_enter func182,ntmps182
 go_wp2
 go_ret
 exact⟨rfl,rfl⟩
theorem JdG(v:Value)(w:World):Calls prog 182 #[.iface 343 (.agg #[v])] w fun e w'=>e= .returned (.iface 343 (.agg #[v]))/\Kp (fun _=>False) w w':=by
 have d:=Iaw (.agg #[v]) w
 go_enter func182,ntmps182
 go_wp2
 go_ret
 exact⟨rfl,(Kp.refl _ _).alloc _⟩
theorem VBlk.c0(h:VBlk w b):w.cell? ⟨b,0,none⟩=some .nilIface:=by
 obtain⟨s,d⟩:=h;simp[Vet,d]
variable {vb:List Nat}{t:Ty}
theorem Jcv(h:PTy w vb t v)(G:∀c,c∈vb->VBlk w c):Calls prog 182 #[v] w fun e w'=>e= .returned v/\Kp (fun _=>False) w w':=by
 cases h with
 |var n b E=>exact(Jcw _ b w (Iaz b w) (G b (Vbn E)).c0).mono (fun e w' ⟨d,D⟩=>⟨d,by rw[D];exact Kp.refl _ _⟩)
 |base kd _=>exact JdG _ w
 |list a b p E _=>exact(Jcw _ b w (Iax b w) (by simp[Vet,E])).mono (fun e w' ⟨d,D⟩=>⟨d,by rw[D];exact Kp.refl _ _⟩)
 |pair a c b p q E _ _=>exact(Jcw _ b w (Iay b w) (by simp[Vet,E])).mono (fun e w' ⟨d,D⟩=>⟨d,by rw[D];exact Kp.refl _ _⟩)
 |fn a c b p q E _ _=>exact(Jcw _ b w (Iav b w) (by simp[Vet,E])).mono (fun e w' ⟨d,D⟩=>⟨d,by rw[D];exact Kp.refl _ _⟩)
def Kd.tp:Kd->TypeId
 | .vr=>216
 | .ls=>222
 | .pr=>226
 | .ar=>230
def RV(ad:List Nat):TR->Value->Prop
 | .int,v=>v= .iface 343 (.agg #[.string ⟨#[105,110,116]⟩])
 | .bool,v=>v= .iface 343 (.agg #[.string ⟨#[98,111,111,108]⟩])
 | .nd k i,v=>∃b,ad[i]? =some b/\v= .iface k.tp (.pointer (some ⟨b,0,none⟩))
def SV(ad:List Nat):Option TR->Value->Prop
 |none,v=>v= .nilIface
 |some r,v=>RV ad r v
def NBk(ad:List Nat):NK->Value->Obj->Prop
 | .vr nm g,s,o=>o= .cells #[s,.string nm,.bool g] 221 (0,0)
 | .ls x,s,o=>∃p,RV ad x p/\o= .cells #[s,p] 225 (0,0)
 | .pr x y,s,o=>∃p q,RV ad x p/\RV ad y q/\o= .cells #[s,p,q] 229 (0,0)
 | .ar x y,s,o=>∃p q,RV ad x p/\RV ad y q/\o= .cells #[s,p,q] 233 (0,0)
structure SW(w:World)(ad:List Nat)(τ:St):Prop where
 len:ad.length=τ.length
 inj:ad.Nodup
 blk:∀(i:Nat) (nk:NK) (s:Option TR) (b:Nat),τ[i]? =some ⟨nk,s⟩->ad[i]? =some b->∃sv o,w.heap[b]? =some o/\SV ad s sv/\NBk ad nk sv o
def TB(o:Obj):Prop:=∃d e f,o= .cells d e f/\(e=221\/e=225\/e=229\/e=233)
structure Kt(ad:List Nat)(S:Nat->Prop)(w w':World):Prop where
 os:w'.os=w.os
 output:w'.output=w.output
 size:w.heap.size<=w'.heap.size
 blk0:∀(k:Nat) (o:Obj),w.heap[k]? =some o->¬S k->(TB o->¬k∈ad)->w'.heap[k]? =some o
theorem Kt.blk(h:Kt ad S w w')(k:Nat)(o:Obj)(D:w.heap[k]? =some o)(d: ¬S k)(ht: ¬TB o):w'.heap[k]? =some o:=h.blk0 k o D d (fun z=>absurd z ht)
theorem Kt.refl(ad:List Nat)(S:Nat->Prop)(w:World):Kt ad S w w:=⟨rfl,rfl,Vau _,fun _ _ h _ _=>h⟩
theorem Kt.trans{b c:World}(h:Kt ad S a b)(k:Kt ad S b c):Kt ad S a c:=
 ⟨k.os.trans h.os,k.output.trans h.output,Vas h.size k.size,fun q o D d ht=>k.blk0 q o (h.blk0 q o D d ht) d ht⟩
variable {ad':List Nat}
theorem Kt.then{b c:World}(h:Kt ad S a b)(k:Kt ad' S b c)(E:∀q,q∈ad'->q∈ad\/a.heap.size<=q):Kt ad S a c:=
 ⟨k.os.trans h.os,k.output.trans h.output,Vas h.size k.size,fun q o D d ht=>k.blk0 q o (h.blk0 q o D d ht) d (fun z y=>by
  rcases E q y with e|e
  .exact ht z e
  .have:=Vah D;omega)⟩
variable {T:Nat->Prop}
theorem Kt.mono{b:World}(h:Kt ad S a b)(E:∀q,q<a.heap.size->S q->T q):Kt ad T a b:=
 ⟨h.os,h.output,h.size,fun q o d D ht=>h.blk0 q o d (fun x=>D (E q (Vah d) x)) ht⟩
theorem Kt.of_kq{b:World}(h:Kq S a b):Kt ad S a b:=⟨h.os,h.output,h.size,fun q _ d D _=>(h.block q (Vah d) D).trans d⟩
theorem Kt.of_kp{b:World}(h:Kp S a b):Kt ad S a b:=⟨h.os,h.output,h.size,fun _ _ D d _=>h.blk D d⟩
theorem Kt.of_kept{b:World}(h:Kept a b):Kt ad S a b:=⟨h.os,h.output,h.size,fun _ _ d _ _=>h.blk d⟩
variable {r:TR}
theorem RV.up(h:RV ad r v)(u:List Nat):RV (ad++u) r v:=by
 cases r with
 |int=>exact h
 |bool=>exact h
 |nd k i=>
  obtain⟨b,d,D⟩:=h;exact⟨b,by rw[Vak (Vae.1 d).1];exact d,D⟩
variable {v':Value}
theorem RV.det(h:RV ad r v)(g:RV ad r v'):v=v':=by
 cases r with
 |int=>exact h.trans g.symm
 |bool=>exact h.trans g.symm
 |nd k i=>
  obtain⟨b,E,G⟩:=h;obtain⟨c,d,D⟩:=g;rw[E]at d;simp at d;rw[G,D,d]
theorem RV.iface(h:RV ad r v):∃T u,v= .iface T u:=by
 cases r with
 |int=>exact⟨_,_,h⟩
 |bool=>exact⟨_,_,h⟩
 |nd k i=>
  obtain⟨b,D,d⟩:=h;exact⟨_,_,d⟩
theorem SV.up{s:Option TR}(h:SV ad s v)(u:List Nat):SV (ad++u) s v:=by
 cases s with
 |none=>exact h
 |some r=>exact RV.up h u
variable {nk:NK}
theorem NBk.up(h:NBk ad nk s o)(u:List Nat):NBk (ad++u) nk s o:=by
 cases nk with
 |vr nm g=>exact h
 |ls x=>obtain⟨p,D,d⟩:=h;exact⟨p,D.up u,d⟩
 |pr x y=>obtain⟨p,q,D,d,E⟩:=h;exact⟨p,q,D.up u,d.up u,E⟩
 |ar x y=>obtain⟨p,q,D,d,E⟩:=h;exact⟨p,q,D.up u,d.up u,E⟩
theorem NBk.tb(h:NBk ad nk s o):TB o:=by
 cases nk with
 |vr nm g=>exact⟨_,_,_,h,.inl rfl⟩
 |ls x=>obtain⟨p,E,D⟩:=h;exact⟨_,_,_,D,.inr (.inl rfl)⟩
 |pr x y=>obtain⟨p,q,E,D,d⟩:=h;exact⟨_,_,_,d,.inr (.inr (.inl rfl))⟩
 |ar x y=>obtain⟨p,q,E,D,d⟩:=h;exact⟨_,_,_,d,.inr (.inr (.inr rfl))⟩
theorem NBk.first(h:NBk ad nk s o):∃I e,o= .cells I e (0,0)/\I[0]? =some s/\∀d,NBk ad nk d (.cells (I.set! 0 d) e (0,0)):=by
 cases nk with
 |vr nm g=>exact⟨_,_,h,rfl,fun d=>rfl⟩
 |ls x=>obtain⟨p,D,E⟩:=h;exact⟨_,_,E,rfl,fun d=>⟨p,D,rfl⟩⟩
 |pr x y=>obtain⟨p,q,D,E,G⟩:=h;exact⟨_,_,G,rfl,fun d=>⟨p,q,D,E,rfl⟩⟩
 |ar x y=>obtain⟨p,q,D,E,G⟩:=h;exact⟨_,_,G,rfl,fun d=>⟨p,q,D,E,rfl⟩⟩
theorem NBk.cell(h:NBk ad nk s o)(D:w.heap[b]? =some o):w.cell? ⟨b,0,none⟩=some s:=by
 obtain⟨E,e,rfl,d,_⟩:=h.first;simp[Vet,D,d]
variable {τ:St}
theorem SW.keep(h:SW w ad τ)(I:∀b o,b∈ad->w.heap[b]? =some o->w'.heap[b]? =some o):SW w' ad τ:=
 ⟨h.len,h.inj,fun i nk s b G d=>by
  obtain⟨sv,o,D,E,J⟩:=h.blk i nk s b G d;exact⟨sv,o,I b o (Vbn d) D,E,J⟩⟩
theorem SW.mem(h:SW w ad τ)(J:b∈ad):∃(i:Nat) (nk:NK) (s:Option TR) (sv:Value) (o:Obj),τ[i]? =some ⟨nk,s⟩/\ad[i]? =some b/\w.heap[b]? =some o/\SV ad s sv/\NBk ad nk sv o:=by
 obtain⟨i,d⟩:=Ves J;have I:=(Vae.1 d).1;have:i<τ.length:=h.len▸I;obtain⟨sv,o,D,E,G⟩:=h.blk i (τ[i]).k (τ[i]).s b (by simp[this]) d;exact⟨i,(τ[i]).k,(τ[i]).s,sv,o,by simp[this],d,D,E,G⟩
theorem SW.tb(h:SW w ad τ)(D:b∈ad):∃o,w.heap[b]? =some o/\TB o:=by
 obtain⟨i,nk,s,sv,o,_,_,d,_,E⟩:=h.mem D;exact⟨o,d,E.tb⟩
theorem SW.found(h:SW w ad τ){s:Option TR}(O:τ[i]? =some ⟨nk,s⟩)(L:ad[i]? =some b)(U:RV ad r v):SW (w.setCell ⟨b,0,none⟩ v) ad (τ.set i ⟨nk,some r⟩):=by
 refine⟨by simp[h.len],h.inj,?_⟩
 intro j mk V c E d
 by_cases e:i=j
 .subst e;rw[L]at d;simp at d;subst d;have W:=(Vae.1 O).1;simp[W]at E;obtain⟨rfl,rfl⟩:=E;obtain⟨sv,o,I,M,J⟩:=h.blk i nk s b O L;obtain⟨Z,ty,rfl,h6,Y⟩:=J.first;refine⟨v,_,?_,U,Y v⟩
  simp[Veu,I,Vay]
 .rw[VaC e]at E;obtain⟨sv,o,I,M,J⟩:=h.blk j mk V c E d;refine⟨sv,o,?_,M,J⟩
  rw[Vaj _ _ _ _ (fun z=> ?_)]
  .exact I
  .have z:c=b:=z;have G:=(Vae.1 L)
   have D:=(Vae.1 d)
   obtain⟨l1,G⟩:=G;obtain⟨l2,D⟩:=D;have T:=VaF.1 h.inj
   rcases VcY i j with q|q|q
   .exact T i j l1 l2 q (by rw[G,D,z])
   .exact e q
   .exact T j i l2 l1 q (by rw[G,D,z])
theorem Kt.setT(E:w.heap[b]? =some o)(ht:TB o)(D:b∈ad)(c:Nat)(v:Value):Kt ad S w (w.setCell ⟨b,c,none⟩ v):=by
 refine⟨rfl,rfl,by simp,?_⟩
 intro k G d _ h;rw[Vaj _ _ _ _ (fun z=> ?_)]
 .exact d
 .have z:k=b:=z;rw[z,E]at d;simp at d;exact h (d▸ht) (z▸D)
theorem Iau(k:Kd)(b:Nat)(w:World):(Go.method 538 k.tp (.pointer (some ⟨b,0,none⟩)) "schemes/infer.finding").run prog w= .ok (280,.pointer (some ⟨b,0,none⟩)) w:=by
 cases k
 .exact Iaz b w
 .exact Iax b w
 .exact Iay b w
 .exact Iav b w
theorem Jh6(b:Nat)(w:World):Calls prog 280 #[.pointer (some ⟨b,0,none⟩)] w fun e w'=>e= .returned (.pointer (some ⟨b,0,none⟩))/\w'=w:=by
 go_enter func280,ntmps280
 go_wp2
 go_ret
 exact⟨rfl,rfl⟩
variable {r0:TR}
theorem Jmc(ad:List Nat)(ag:Rp τ r r0):∀(w:World) (v:Value),SW w ad τ->RV ad r v->
  Calls prog 182 #[v] w fun e w'=>∃E τ',e= .returned E/\RV ad r0 E/\SW w' ad τ'/\Ev τ τ'/\Kt ad (fun _=>False) w w':=by
 induction ag with
 |int=>
  intro w v h I;rw[show v=_ from I];refine(JdG _ w).mono ?_
  rintro e w' ⟨rfl,V⟩;exact⟨_,τ,rfl,rfl,h.keep (fun b o _ d=>V.blk d id),Ev.refl _,Kt.of_kp V⟩
 |bool=>
  intro w v h I;rw[show v=_ from I];refine(JdG _ w).mono ?_
  rintro e w' ⟨rfl,V⟩;exact⟨_,τ,rfl,rfl,h.keep (fun b o _ d=>V.blk d id),Ev.refl _,Kt.of_kp V⟩
 |root i nk W=>
  intro w v h I;obtain⟨b,d,rfl⟩:=I;obtain⟨sv,o,h1,M,O⟩:=h.blk i nk none b W d;rw[show sv=_ from M]at O;refine(Jcw _ b w (Iau _ b w) (O.cell h1)).mono ?_
  rintro e w' ⟨rfl,rfl⟩;exact⟨_,τ,rfl,⟨b,d,rfl⟩,h,Ev.refl _,Kt.refl _ _ _⟩
 |step i nk r r0 W hr ih=>
  intro w v h I;obtain⟨b,d,rfl⟩:=I;obtain⟨sv,o,h1,M,O⟩:=h.blk i nk (some r) b W d;have M:RV ad r sv:=M;obtain⟨T,u,rfl⟩:=M.iface;have c0:=O.cell h1;have hm:=Iau nk.kd b w;have HI:Hid _:=ih w _ h M;have HF:Hid _:=Jh6 b w
  have af:Hid (∀(D:World) (G:St) (E:Value),SW D ad G->Ev τ G->Kt ad (fun _=>False) w D->RV ad r0 E->(∃x,D.frozen? ⟨b,0,none⟩=false/\D.cell? ⟨b,0,none⟩=some x)/\SW (D.setCell ⟨b,0,none⟩ E) ad (G.set i ⟨nk,some r0⟩)/\Ev τ (G.set i ⟨nk,some r0⟩)/\Kt ad (fun _=>False) w (D.setCell ⟨b,0,none⟩ E)):=by
   intro D G E Z Y aa U;obtain⟨s',q1,q2⟩:=Y.kk i nk _ W
   cases s' with
   |none=>simp at q2
   |some r1=>
    obtain⟨aj,o1,g1,g2,g3⟩:=Z.blk i nk (some r1) b q1 d;have ae:=Y.rp _ _ (Rp.step i nk r r0 W hr)
    have ah:Rp G r1 r0:=by
     generalize J:TR.nd nk.kd i=x at ae
     cases ae with
     |int=>cases J
     |bool=>cases J
     |root j mk L=>
      simp only[TR.nd.injEq]at J;rw[<-J.2,q1]at L;simp at L
     |step j mk r2 r3 L h5=>
      simp only[TR.nd.injEq]at J;rw[<-J.2,q1]at L;simp at L;rw[L.2];exact h5
    obtain⟨cs,ty,rfl,_,_⟩:=g3.first;exact⟨⟨_,by simp[Vev,g1],g3.cell g1⟩,Z.found q1 d U,Y.trans (Rp.short q1 ah),aa.trans (Kt.setT g1 g3.tb (Vbn d) _ _)⟩
  clear ih h h1 O
  go_enter func182,ntmps182
  go_wp2_with fail
  refine Vac HF.out ?_
  rintro e w' ⟨rfl,ac⟩;rw[ac];clear ac w' HF
  go_wp2_with fail
  refine Vac HI.out ?_
  rintro e D ⟨E,G,rfl,U,Z,Y,aa⟩;obtain⟨T0,u0,rfl⟩:=U.iface;obtain⟨⟨x,ai,J⟩,f1,f2,f3⟩:=af.out D G _ Z Y aa U;clear af HI Z
  go_wp2
  go_ret
  exact⟨_,_,rfl,U,f1,f2,f3⟩
theorem Jh0(T E:TypeId)(n:Nat)(J:prog.underlying T=some (.pointer E))(W:(prog.info? E).map (·.size)=some (n+1))(Z:(prog.info? T).map (·.comparable)=some true)(w:World)(b c:Nat)(G:∃D e,w.heap[b]? =some (.cells D e (0,0)))(I:∃D e,w.heap[c]? =some (.cells D e (0,0))):
  (Op.equal 156 (.iface T (.pointer (some ⟨b,0,none⟩))) (.iface T (.pointer (some ⟨c,0,none⟩)))).run prog w= .ok (b==c) w:=by
 obtain⟨j,L,M⟩:=Va5.1 W;obtain⟨i,V,Y⟩:=Va5.1 Z;obtain⟨D,e,G⟩:=G;obtain⟨aa,e',I⟩:=I
 have h:∀d:Nat,(Op.equalIn (d+1) T (.pointer (some ⟨b,0,none⟩)) (.pointer (some ⟨c,0,none⟩))).run prog w= .ok (b==c) w:=fun d=>by
  by_cases e:b=c
  .subst e;simp[Op.equalIn,VaM J,sizeOf,typeInfo,L,M,run_sameAddr_same]
  .have O:=run_sameAddr_other (P:=prog) (w:=w) (a:=⟨b,0,none⟩) (b:=⟨c,0,none⟩) (fun q=>e (VbH Addr.block q)) G I;simp[Op.equalIn,VaM J,sizeOf,typeInfo,L,M,O,e]
 have U:∀d:Nat,(Op.equalIn (d+2) 156 (.iface T (.pointer (some ⟨b,0,none⟩))) (.iface T (.pointer (some ⟨c,0,none⟩)))).run prog w= .ok (b==c) w:=fun d=>by
  rw[show d+2=(d+1)+1 from rfl];rw[Op.equalIn];simp[VaM Vd1,typeInfo,V,Y,h d]
 exact U 9998
theorem eq_kd(k:Kd)(w:World)(b c:Nat)(d:∃D e,w.heap[b]? =some (.cells D e (0,0)))(h:∃D e,w.heap[c]? =some (.cells D e (0,0))):
  (Op.equal 156 (.iface k.tp (.pointer (some ⟨b,0,none⟩))) (.iface k.tp (.pointer (some ⟨c,0,none⟩)))).run prog w= .ok (b==c) w:=by
 cases k
 .exact Jh0 _ 221 2 (by kernel_rfl) (by kernel_rfl) (by kernel_rfl) w b c d h
 .exact Jh0 _ 225 1 (by kernel_rfl) (by kernel_rfl) (by kernel_rfl) w b c d h
 .exact Jh0 _ 229 2 (by kernel_rfl) (by kernel_rfl) (by kernel_rfl) w b c d h
 .exact Jh0 _ 233 2 (by kernel_rfl) (by kernel_rfl) (by kernel_rfl) w b c d h
theorem Jfx(T U:TypeId)(h:T≠U)(x y:Value)(w:World):(Op.equal 156 (.iface T x) (.iface U y)).run prog w= .ok false w:=by
 have D:∀d:Nat,(Op.equalIn (d+1) 156 (.iface T x) (.iface U y)).run prog w= .ok false w:=fun d=>by
  rw[Op.equalIn];simp[VaM Vd1,h]
 exact D 9999
theorem Iao(w:World):(Op.equal 156 (.iface 343 (.agg #[.string ⟨#[105,110,116]⟩])) (.iface 343 (.agg #[.string ⟨#[105,110,116]⟩]))).run prog w= .ok true w:=by kernel_rfl
theorem Ian(w:World):(Op.equal 156 (.iface 343 (.agg #[.string ⟨#[105,110,116]⟩])) (.iface 343 (.agg #[.string ⟨#[98,111,111,108]⟩]))).run prog w= .ok false w:=by kernel_rfl
theorem Iam(w:World):(Op.equal 156 (.iface 343 (.agg #[.string ⟨#[98,111,111,108]⟩])) (.iface 343 (.agg #[.string ⟨#[105,110,116]⟩]))).run prog w= .ok false w:=by kernel_rfl
theorem Ial(w:World):(Op.equal 156 (.iface 343 (.agg #[.string ⟨#[98,111,111,108]⟩])) (.iface 343 (.agg #[.string ⟨#[98,111,111,108]⟩]))).run prog w= .ok true w:=by kernel_rfl
variable {k:Kd}
theorem Kd.tp_inj{l:Kd}(h:k≠l):k.tp≠l.tp:=by cases k<;>cases l<;>first|exact absurd rfl h|(intro e;cases e)
theorem Kd.tp_basic(k:Kd):k.tp≠343:=by cases k<;>(intro e;cases e)
theorem SW.cells(h:SW w ad τ)(G:ad[i]? =some b):∃d e,w.heap[b]? =some (.cells d e (0,0)):=by
 obtain⟨_,_,_,_,o,_,_,D,_,E⟩:=h.mem (Vbn G);obtain⟨d,e,rfl,_⟩:=E.first;exact⟨d,e,D⟩
variable {j:Nat}
theorem JcB(h:ad.Nodup)(G:ad[i]? =some b)(I:ad[j]? =some b):i=j:=by
 obtain⟨l1,D⟩:=Vae.1 G;obtain⟨l2,d⟩:=Vae.1 I;have E:=VaF.1 h
 rcases VcY i j with q|q|q
 .exact(E i j l1 l2 q (by rw[D,d])).elim
 .exact q
 .exact(E j i l2 l1 q (by rw[D,d])).elim
variable {u:Value}
theorem JqO(h:SW w ad τ){s:TR}(E:RV ad r v)(d:RV ad s u):(Op.equal 156 v u).run prog w= .ok (r.eqb s) w:=by
 cases r with
 |int=>
  rw[show v=_ from E]
  cases s with
  |int=>rw[show u=_ from d];exact Iao w
  |bool=>rw[show u=_ from d];exact Ian w
  |nd k i=>obtain⟨b,_,rfl⟩:=d;exact Jfx _ _ k.tp_basic.symm _ _ w
 |bool=>
  rw[show v=_ from E]
  cases s with
  |int=>rw[show u=_ from d];exact Iam w
  |bool=>rw[show u=_ from d];exact Ial w
  |nd k i=>obtain⟨b,_,rfl⟩:=d;exact Jfx _ _ k.tp_basic.symm _ _ w
 |nd k i=>
  obtain⟨b,G,rfl⟩:=E
  cases s with
  |int=>rw[show u=_ from d];exact Jfx _ _ k.tp_basic _ _ w
  |bool=>rw[show u=_ from d];exact Jfx _ _ k.tp_basic _ _ w
  |nd l j=>
   obtain⟨c,D,rfl⟩:=d
   by_cases e:k=l
   .subst e;rw[eq_kd k w b c (h.cells G) (h.cells D)];congr 1
    rw[Vb7,TR.eqb_iff,Vbs]
    constructor
    .intro e;subst e;rw[JcB h.inj G D]
    .intro e;simp only[TR.nd.injEq,VbG]at e;subst e;rw[G]at D;simpa using D
   .rw[Jfx _ _ (Kd.tp_inj e)];congr 1
    symm
    rw[TR.eqb_ff];intro q;simp only[TR.nd.injEq]at q;exact e q.1
theorem JqJ(d:RV ad r v)(em:Bool):(Instr.checkKey em 10000 156 v).run prog w= .ok () w:=by
 cases r with
 |int=>rw[show v=_ from d];kernel_rfl
 |bool=>rw[show v=_ from d];kernel_rfl
 |nd k i=>
  obtain⟨b,_,rfl⟩:=d
  cases k<;>kernel_rfl
def Idc(ad:List Nat):TR->Value
 | .int=> .iface 343 (.agg #[.string ⟨#[105,110,116]⟩])
 | .bool=> .iface 343 (.agg #[.string ⟨#[98,111,111,108]⟩])
 | .nd k i=> .iface k.tp (.pointer (some ⟨ad.getD i 0,0,none⟩))
theorem RV.kvf(h:RV ad r v):v=Idc ad r:=by
 cases r with
 |int=>exact h
 |bool=>exact h
 |nd k i=>
  obtain⟨b,D,d⟩:=h;rw[d];simp[Idc,List.getD,D]
theorem RV.ok(h:RV ad r v):RV ad r (Idc ad r):=h.kvf▸h
def Jb6(ad:List Nat):List (TR×Value)->Nat->List MapEntry
 | [],_=> []
 |e::l,i=>{key:=Idc ad e.1,val:=e.2,born:=i}::Jb6 ad l (i+1)
theorem Jjh(ad:List Nat)(l:List (TR×Value))(e:TR×Value):∀i,Jb6 ad (l++ [e]) i=Jb6 ad l i++ [{key:=Idc ad e.1,val:=e.2,born:=i+l.length}]:=by
 induction l with
 |nil=>intro i;simp[Jb6]
 |cons c l d=>
  intro i;have e:i+1+l.length=i+(l.length+1):=by omega
  simp[Jb6,d,e]
def askT(r:TR):List (TR×Value)->Nat->Option (Nat×Value)
 | [],_=>none
 |e::l,i=>if r.eqb e.1 then some (i,e.2)else askT r l (i+1)
structure TMp(w:World)(mb:Nat)(ad:List Nat)(l:List (TR×Value)):Prop where
 mp:w.heap[mb]? =some (.map (Jb6 ad l 0).toArray l.length)
 ok:∀e,e∈l->RV ad e.1 (Idc ad e.1)
theorem Jqx(h:SW w ad τ)(E:RV ad r v)(l:List (TR×Value)):∀(i:Nat),(∀e,e∈l->RV ad e.1 (Idc ad e.1))->(Vew 156 v (Jb6 ad l i) i).run prog w= .ok (askT r l i) w:=by
 induction l with
 |nil=>intro i _;rfl
 |cons c l J=>
  intro i d;have I:=JqO h E (d c (by simp));have G:=J (i+1) (fun x D=>d x (by simp[D]));simp only[Jb6,Vew,Va8,I,VeA,askT]
  cases L:r.eqb c.1 with
  |true=>simp
  |false=>simp only[Vao,VaS,G]
theorem Jn4(h:SW w ad τ)(E:RV ad r v)(l:List (TR×Value))(G:∀e,e∈l->RV ad e.1 (Idc ad e.1)):(Vex 156 v (Jb6 ad l 0)).run prog w= .ok (askT r l 0) w:=by
 have I:=Jqx h E l 0 G;obtain⟨T,u,rfl⟩:=E.iface;obtain⟨d,D⟩:∃d,prog.underlying 156=some d/\∀x y,Instr.sameNow d (.iface T u) y=x->x=none:=⟨_,Vd1,fun x y e=>by rw[<-e];rfl⟩
 cases l with
 |nil=>simp[Vex,VaM D.1,Jb6,Vey,askT]
 |cons c l=>
  have J:Vey d (.iface T u) (Jb6 ad (c::l) 0) 0=none:=by
   simp only[Jb6,Vey];rw[D.2 _ _ rfl]
  simp only[Vex,Va8,VaM D.1,VeA,J];exact I
variable {l:List (TR×Value)}
theorem JdO(h:SW w ad τ)(d:RV ad r v)(D:TMp w mb ad l)(E V:TypeId)(z:Value)(G:prog.underlying E=some (.map 156 V))(I:(zeroValue V).run prog w= .ok z w):
  (Instr.lookup E (.map (some mb)) v true).run prog w= .ok (match askT r l 0 with|some x=> .tuple #[x.2,.bool true]|none=> .tuple #[z,.bool false]) w:=by
 have L:=Jn4 h d l D.ok;have J:=fun e=>JqJ (w:=w) d e
 simp only[Instr.lookup,Va8,VaM G,VaQ D.mp,VeA,VbW,J,L]
 cases askT r l 0 with
 |none=>simp[I,VeA]
 |some j=>simp
theorem JgQ(h:SW w ad τ)(d:RV ad r v)(D:TMp w mb ad l)(E V:TypeId)(x:Value)(I:prog.underlying E=some (.map 156 V))(J:askT r l 0=none):
  (Vez E (.map (some mb)) v x).run prog w= .ok () (Idd w mb (.map (Jb6 ad (l++ [(r,x)]) 0).toArray (l.length+1))):=by
 have G:=Jn4 h d l D.ok;rw[J]at G;have L:=JqJ (w:=w) d false
 have e:(Jb6 ad l 0).toArray.push {key:=v,val:=x,born:=l.length}=(Jb6 ad (l++ [(r,x)]) 0).toArray:=by
  rw[Jjh];simp[d.kvf]
 rw[<-e];simp[Vez,VaM I,VaQ D.mp,L,G,VbB _ D.mp,VeA,Idd]
theorem TMp.put(h:TMp w mb ad l)(D:RV ad r v)(x:Value):TMp (Idd w mb (.map (Jb6 ad (l++ [(r,x)]) 0).toArray (l.length+1))) mb ad (l++ [(r,x)]):=by
 refine⟨?_,?_⟩
 .rw[JaV _ _ _ (Vah h.mp)];simp
 .intro e d;simp at d
  rcases d with d|rfl
  .exact h.ok e d
  .exact D.ok
variable {n:Nat}
theorem SW.mapSet(h:SW w ad τ){E:Array MapEntry}(G:w.heap[mb]? =some (.map E n))(o:Obj):SW (Idd w mb o) ad τ:=h.keep (fun b q I D=>by
  obtain⟨L,d,J,e,f,rfl,_⟩:=h.tb I;rw[Jau _ _ _ _ (fun z=>by rw[z,G]at d;cases d)];exact D)
inductive Sp where
 |tk (t:BA)|cp (f t:Nat)
def Sp.cells:Sp->List Value
 | .tk t=> [.string t,.int .i64 0,.int .i64 0]
 | .cp f t=> [.string ⟨#[]⟩,.int .i64 f,.int .i64 t]
def Jbc:List Sp->List Value
 | []=> []
 |s::l=>s.cells++Jbc l
theorem JgV(l:List Sp)(s:Sp):Jbc (l++ [s])=Jbc l++s.cells:=by
 induction l with
 |nil=>simp[Jbc]
 |cons a l d=>simp[Jbc,d]
def Sp.put(d:BA):Sp->BA
 | .tk t=>d++t
 | .cp f t=>d++d.extract f t
def decS(l:List Sp):BA:=l.foldl Sp.put ⟨#[]⟩
theorem Jb0(l:List Sp)(s:Sp):decS (l++ [s])=s.put (decS l):=by simp[decS]
def Sp.ok(d:BA):Sp->Prop
 | .tk t=>0<t.size
 | .cp f t=>f<=t/\t<=d.size
structure TL(w:World)(B b pm:Nat)(fv:Value)(sp:List Sp):Prop where
 hB:B<=b
 cs:∃sv,w.heap[b]? =some (.cells #[fv,sv,.int .i64 (decS sp).size,.map (some pm)] 303 (0,0))/\w.ownsRow B 308 3 sv sp.length (Jbc sp)/\sv.ownBlock≠some b/\sv.ownBlock≠some pm
 lt:(decS sp).size<=2147483647/\sp.length<=1000000000
 good:∀(k:Nat) (s:Sp),sp[k]? =some s->s.ok (decS (sp.take k))
theorem TL.c{d:List Sp}(h:TL w B b pm fv d):w.cell? ⟨b,0,none⟩=some fv/\w.cell? ⟨b,2,none⟩=some (.int .i64 (decS d).size)/\w.cell? ⟨b,3,none⟩=some (.map (some pm))/\∃sv,w.cell? ⟨b,1,none⟩=some sv:=by
 obtain⟨sv,D,_⟩:=h.cs;simp[Vet,D]
def ST(B:Nat)(q:Nat):Prop:=B<=q
theorem JdU(w:World)(b n m:Nat)(fv sv h:Value)(d:w.heap[b]? =some (.cells #[fv,sv,.int .i64 n,h] 303 (0,0)))(I:n+m<=2147483647):
  Calls prog 213 #[.pointer (some ⟨b,0,none⟩),.int .i64 m] w fun e w'=>e= .returned (.tuple #[])/\w'.heap[b]? =some (.cells #[fv,sv,.int .i64 ((n+m:Nat):Int),h] 303 (0,0))/\Kq (·=b) w w':=by
 have c2:w.cell? ⟨b,2,none⟩=some (.int .i64 n):=by simp[Vet,d]
 have G:w.frozen? ⟨b,2,none⟩=false:=by simp[Vev,d]
 go_enter func213,ntmps213
 go_wp2
 go_end0
 refine⟨rfl,?_,rfl,rfl,by simp,fun k E D=>Vaj _ _ _ _ D⟩
 first
  |(simp[Veu,d,Vay];done)
  |(simp[Veu,d,Vay];omega)
theorem IaQ:(prog.info? 308).map (fun i=>(i.zero,i.size,i.bytes))=some (some (.agg #[.string ⟨#[]⟩,.int .i64 0,.int .i64 0]),3,32):=by kernel_rfl
theorem TL.put{d:List Sp}(h:TL w B b pm fv d)(s:Sp)(O:s.ok (decS d))(T:B<=b)(sv:Value)(U:w'.heap[b]? =some (.cells #[fv,sv,.int .i64 (decS (d++ [s])).size,.map (some pm)] 303 (0,0)))(I:w'.ownsRow B 308 3 sv (d.length+1) (Jbc d++s.cells))(G:sv.ownBlock≠some b/\sv.ownBlock≠some pm)(E:(decS (d++ [s])).size<=2147483647/\d.length+1<=1000000000):TL w' B b pm fv (d++ [s]):=by
 refine⟨T,⟨sv,U,?_,G.1,G.2⟩,⟨E.1,by simpa using E.2⟩,?_⟩
 .rw[JgV];simpa using I
 .intro k M D
  by_cases e:k<d.length
  .rw[Vak e]at D;rw[List.take_append_of_le_length (by omega)];exact h.good k M D
  .rw[VaU (by omega)]at D
   have J:k-d.length=0:=by
    have:=(Vae.1 D).1;simp at this;omega
   rw[J]at D;simp at D;subst D;have L:k=d.length:=by omega
   subst L;simpa using O
theorem Jp8{d:List Sp}(h:TL w B b pm fv d)(aC:B<=w.heap.size)(aB:pm<w.heap.size)(ae:pm≠b)(t:BA)(ht:0<t.size)(J:(decS d).size+t.size<=2147483647)(hl:d.length+1<=1000000000):
  Calls prog 214 #[.pointer (some ⟨b,0,none⟩),.string t] w fun e w'=>e= .returned (.tuple #[])/\TL w' B b pm fv (d++ [.tk t])/\Kq (ST B) w w'/\w'.heap[pm]? =w.heap[pm]? :=by
 obtain⟨sv,Y,ho,ag,aj⟩:=h.cs;obtain⟨T,hi,am⟩:=Va5.1 IaQ
 obtain⟨ao,az,aw⟩:T.zero=some (.agg #[.string ⟨#[]⟩,.int .i64 0,.int .i64 0])/\T.size=3/\T.bytes=32:=by
  have:=am;simp only[Vaf]at this;exact this
 have c1:w.cell? ⟨b,1,none⟩=some sv:=by simp[Vet,Y]
 have ay:=Vah Y;have hg:∀k,sv.ownBlock=some k->B<=k/\k<w.heap.size:=fun k E=>ho.lt k E
 have HL:Hid (∀(O:World) (u:Value),O.heap[b]? =some (.cells #[fv,u,.int .i64 (decS d).size,.map (some pm)] 303 (0,0))->Calls prog 213 #[.pointer (some ⟨b,0,none⟩),.int .i64 (t.size:Nat)] O fun e w'=>e= .returned (.tuple #[])/\w'.heap[b]? =some (.cells #[fv,u,.int .i64 (((decS d).size+t.size:Nat):Int),.map (some pm)] 303 (0,0))/\Kq (·=b) O w'):=fun O u h4=>JdU O b _ _ fv u _ h4 J
 have H:Hid (TL w B b pm fv d):=h;have M:Hid (sv.ownBlock≠some b/\sv.ownBlock≠some pm):=⟨ag,aj⟩
 have W:Hid _:=hg;have Z:Hid _:=h.hB;clear h ag aj hg am
 go_enter func214,ntmps214
 go_wp2_with (at_builtin;refine Jat _ rfl (.tmp 8) (.tmp 11) 301 rfl B 308 T (.agg #[.string ⟨#[]⟩,.int .i64 0,.int .i64 0]) 3 32 underlying301 hi ao az aw rfl (by decide) _ _ _ rfl (ho.alloc _) ⟨w.heap.size,0,none⟩ 1 1 [.string t,.int .i64 0,.int .i64 0] rfl rfl ?c1 ?c2 ?c3 ?c4 ?c5 (by decide) ?_)
 case c1=>
  intro y u G
  match y,G with
  |0,G=>simp at G;subst G;simp[Addr.add]
  |1,G=>simp at G;subst G;simp[Addr.add]
  |2,G=>simp at G;subst G;simp[Addr.add]
 case c2=>
  intro u hu;simp at hu
  rcases hu with rfl|rfl<;>rfl
 case c3=>unfold maxLen;omega
 case c4=>omega
 case c5=>simp;omega
 intro g cap D aa I ac
 have V:D.heap[b]? =some (.cells #[fv,sv,.int .i64 (decS d).size,.map (some pm)] 303 (0,0)):=by
  rw[I.block b (by simp;omega) (fun e=>M.out.1 e.symm),VaA _ _ _ ay];exact Y
 have U:g≠b/\g≠pm/\B<=g:=by
  rcases ac with e|e
  .exact⟨fun z=>M.out.1 (by rw[<-e,z]),fun z=>M.out.2 (by rw[<-e,z]),(W.out g e.symm).1⟩
  ·(try simp at e)
   exact⟨by omega,by omega,by omega⟩
 have x1:D.cell? ⟨b,1,none⟩=some sv:=by simp[Vet,V]
 have x2:D.frozen? ⟨b,1,none⟩=false:=by simp[Vev,V]
 have ax:(D.setCell ⟨b,1,none⟩ (.slice (some ⟨g,0,none⟩) (d.length+1) cap)).heap[b]? =some (.cells #[fv,.slice (some ⟨g,0,none⟩) (d.length+1) cap,.int .i64 (decS d).size,.map (some pm)] 303 (0,0)):=by
  simp[Veu,V,Vay]
 have au:Hid _:=HL.out _ _ ax;have an:=I.size
 have ah:(D.setCell ⟨b,1,none⟩ (.slice (some ⟨g,0,none⟩) (d.length+1) cap)).heap[pm]? =w.heap[pm]? :=by
  rw[Vaj _ _ _ _ ae,I.block pm (by simp;omega) (fun e=>M.out.2 e.symm),VaA _ _ _ aB]
 have ak:Hid (pm<D.heap.size/\(D.setCell ⟨b,1,none⟩ (.slice (some ⟨g,0,none⟩) (d.length+1) cap)).heap[pm]? =w.heap[pm]?):=⟨by simp at an;omega,ah⟩
 have av:Kq (ST B) w D:=⟨I.os,I.output,by simp at an;omega,fun k E J=>by
  rw[I.block k (by simp;omega) (fun e=>J (W.out k e.symm).1),VaA _ _ _ E]⟩
 have aq:Kq (ST B) D (D.setCell ⟨b,1,none⟩ (.slice (some ⟨g,0,none⟩) (d.length+1) cap)):=⟨rfl,rfl,by simp,fun k E J=>Vaj _ _ _ _ (fun e=>J (by show B<=k;rw[show k=b from e];exact Z.out))⟩
 have ai:(D.setCell ⟨b,1,none⟩ (.slice (some ⟨g,0,none⟩) (d.length+1) cap)).ownsRow B 308 3 (.slice (some ⟨g,0,none⟩) (d.length+1) cap) (d.length+1) (Jbc d++ [.string t,.int .i64 0,.int .i64 0]):=JaM aa (fun k E=>by
  have:k=g:=by simpa[VeB]using E.symm
  subst this;exact Vaj _ _ _ _ U.1)
 have al:Hid _:=ai;clear HL aa I ac V ai W M ah
 go_wp2_with (go_at_call 213;refine Vac au.out ?_;rintro e w5 ⟨rfl,aA,L⟩)
 go_end0
 have af:(decS (d++ [.tk t])).size=(decS d).size+t.size:=by rw[Jb0];simp[Sp.put]
 refine⟨rfl,H.out.put (.tk t) ht Z.out _ (by rw[af];exact aA) (JaM al.out (fun k E=> ?_)) ⟨?_,?_⟩ ⟨by rw[af];exact J,hl⟩,(av.trans aq).trans ⟨L.os,L.output,L.size,fun k E hq=>L.block k E (fun e=>hq (by show B<=k;rw[show k=b from e];exact Z.out))⟩,(L.block pm (by simpa using ak.out.1) ae).trans ak.out.2⟩
 .have:k=g:=by simpa[VeB]using E.symm
  subst this;exact L.block k (VcH al.out k (by simp[VeB])).2 U.1
 .simpa[VeB]using U.1
 .simpa[VeB]using U.2.1
open Go.RowKit Go.Shelf
shelf_lay Lays.n165 Nm 165 at Tryz as lays165
shelf_lay Lays.n169 Nm 169 at Tryz as lays169
theorem Iaa:Builder.Extra prog lays165_ren where
 sizeBuilder:=by kernel_rfl
 liesBuilder:=by kernel_rfl
 t5:=underlying5
 a5:=isAgg5
 z5:=sizeOf5
 v5:=zeroValue5
 infoByte:=by kernel_rfl
 cellsByte:=by kernel_rfl
 sizeByte:=by kernel_rfl
 neB5:=by decide
theorem Iab:Builder.Extra prog lays169_ren where
 sizeBuilder:=by kernel_rfl
 liesBuilder:=by kernel_rfl
 t5:=underlying5
 a5:=isAgg5
 z5:=sizeOf5
 v5:=zeroValue5
 infoByte:=by kernel_rfl
 cellsByte:=by kernel_rfl
 sizeByte:=by kernel_rfl
 neB5:=by decide
theorem fgrow(B b n:Nat)(w:World)(d:B<=b)(D:w.heap[b]? =some (.cells #[.pointer none,.slice none 0 0] 185 (0,0)))(E:B<=w.heap.size)(h:n<=281474976710656):
  Calls prog 146 #[.pointer (some ⟨b,0,none⟩),.int .i64 n] w fun e w'=>e= .returned (.tuple #[])/\(Lib.BuilderAt 185 5 B b (.pointer (some ⟨b,0,none⟩)) [] w'/\Below B w w'):=Any.Builder_Grow_fresh lays165 Iaa B b n w d D E h
theorem IaY:liesAt prog prog.depth 185 (2/prog.cellsOf 185) 0 185 1=true:=by kernel_rfl
theorem JiM(b:Nat)(w:World)(G:w.cell? ⟨b,0,none⟩=some (.pointer none))(h:w.shape? b=some (185,2))(E:w.frozen? ⟨b,0,none⟩=false):
  Calls prog 185 #[.pointer (some ⟨b,0,none⟩)] w fun e w'=>e= .returned (.tuple #[])/\w'=w.setCell ⟨b,0,none⟩ (.pointer (some ⟨b,0,none⟩)):=by
 obtain⟨j,d,D⟩:=Va5.1 IbC
 go_enter func185,ntmps185
 go_wp2
 rw[Lib.run_to_unsafe w ⟨b,0,none⟩ VcF Vc9 d (by rw[D];decide) h (Nat.zero_lt_succ 1)];simp only[VeA];rw[Vcs]
 go_wp2
 rw[VaJ func216 (by kernel_rfl) (by kernel_rfl) (by kernel_rfl) (e:=Extern.AbiNoEscape.same) (by kernel_rfl)];rw[Lib.run_noEscape];simp only[VeA];rw[Vcs]
 go_wp2
 rw[Lib.run_from_unsafe w ⟨b,0,none⟩ Vc9 VcF d h IaY];simp only[VeA];rw[Vcs]
 go_wp2
 go_end0
 exact⟨rfl,rfl⟩
theorem JnZ(B b:Nat)(bs:List Value)(s:BA)(w:World)(h:VeC 185 5 B b bs w)(ah:bs.length+s.size<=100000000000)(J:B<=w.heap.size):
  Calls prog 147 #[.pointer (some ⟨b,0,none⟩),.string s] w fun e w'=>e= .returned (.tuple #[.int .i64 s.size,.nilIface])/\VeD 185 5 B b (.pointer (some ⟨b,0,none⟩)) (bs++VeE s) w'/\Below B w w':=by
 obtain⟨i0,hi,Z,ae,ac⟩:=VcX IaO
 have V:Hid (Calls prog 185 #[.pointer (some ⟨b,0,none⟩)] w fun e w'=>e= .returned (.tuple #[])/\VeD 185 5 B b (.pointer (some ⟨b,0,none⟩)) bs w'/\Below B w w'):=by
  rcases h with h|h
  .obtain⟨D,v,d,_⟩:=id h;refine(JiM b w (by simp[Vet,d]) (by simp[World.shape?,d]) (by simp[Vev,d])).mono ?_
   rintro e w' ⟨rfl,rfl⟩;exact⟨rfl,h.used _,(Vbh B w).setCell (p:=⟨b,0,none⟩) D _⟩
  .obtain⟨D,v,d,_⟩:=id h;refine(JhT b w (by simp[Vet,d])).mono ?_
   rintro e w' ⟨rfl,rfl⟩;exact⟨rfl,h,Vbh B _⟩
 clear h
 go_enter func147,ntmps147
 go_wp2_with fail
 refine Vac V.out ?_
 rintro e w1 ⟨rfl,⟨D,v,d,M,af⟩,U⟩;have c1:w1.cell? ⟨b,1,none⟩=some v:=by simp[Vet,d]
 have aa:=Vah d;have J:=Vas J U.size;clear V
 go_wp2_with (at_builtin;refine Lib.wpList_append_own_stringF _ rfl _ _ 153 9 rfl B 5 i0 underlying153 VaR hi Z ae ac _ _ _ rfl M s rfl (by unfold maxLen;omega) (by omega) (by omega) ?_)
 intro v' E O L W
 have G:E.heap[b]? =some (.cells #[.pointer (some ⟨b,0,none⟩),v] 185 (0,0)):=by
  rw[L.block b aa (fun e=>af e.symm)];exact d
 obtain⟨T,cap2,rfl⟩:∃ao cap,v'= .slice ao (bs.length+s.size) cap:=by
  rcases O.2 with⟨I,e2⟩|⟨g,cap,ag,fz,I,_⟩
  .exact⟨none,0,by rw[I,e2]⟩
  .exact⟨_,cap,I⟩
 have d1:E.cell? ⟨b,1,none⟩=some v:=by simp[Vet,G]
 have f1:E.frozen? ⟨b,1,none⟩=false:=by simp[Vev,G]
 have hF:VeD 185 5 B b (.pointer (some ⟨b,0,none⟩)) (bs++VeE s) (E.setCell ⟨b,1,none⟩ (.slice T (bs.length+s.size) cap2)):=Lib.BuilderAtF.put D G (bs':=bs++VeE s) (by simpa[Lib.strCells_length]using O) (by decide);have Y:Below B w (E.setCell ⟨b,1,none⟩ (.slice T (bs.length+s.size) cap2)):=((U.grown L J (fun k hk=>(M.lt k hk).1)).setCell (p:=⟨b,1,none⟩) D _)
 clear O L W d M
 go_wp2
 exact VaI (v:= .tuple #[.int .i64 s.size,.nilIface]) (by simp[results,results147,go_sem]) rfl ⟨rfl,hF,Y⟩
theorem JjY(B b:Nat)(l:List UInt8)(w:World)(h:VeC 185 5 B b (Lib.byteCells l) w)(d:B<=w.heap.size):
  Calls prog 101 #[.pointer (some ⟨b,0,none⟩)] w fun e w'=>e= .returned (.string ⟨l.toArray⟩)/\(VeC 185 5 B b (Lib.byteCells l) w'/\Below B w w'/\Lib.OthersKept 5 (some b) w w'):=Any.Builder_String_any_k lays169 Iab B b l w h d
variable {bs:List Value}
theorem Jjv{c:Nat}(h:VeC 185 5 B b bs w)(G:∀k o,w.heap[k]? =some o->k≠c->w'.heap[k]? =some o)(D:∀J e f,w.heap[c]? =some (.cells J e f)->e≠5/\e≠185):VeC 185 5 B b bs w':=by
 have key:∀p,VeD 185 5 B b p bs w->VeD 185 5 B b p bs w':=by
  rintro p ⟨T,v,E,d,W⟩;refine⟨T,v,G b _ E (fun z=>(D _ _ _ (by rw[<-z];exact E)).2 rfl),⟨d.1,?_⟩,W⟩
  rcases d.2 with q|⟨g,cap,U,V,M,L,I,O⟩
  .exact .inl q
  .exact .inr ⟨g,cap,U,V,M,L,G g _ I (fun z=>(D _ _ _ (by rw[<-z];exact I)).1 rfl),O⟩
 rcases h with h|h
 .exact .inl (key _ h)
 .exact .inr (key _ h)
theorem JhV(h:VeC 185 5 B b bs w)(o:Obj):VeC 185 5 B b bs (w.alloc o):=Jjv (c:=w.heap.size) h (fun k D d _=>(VaA _ _ _ (Vah d)).trans d) (fun E e f d=>by simp at d)
end Go.Proofs.YtleenphlgbklmaaGreatDoor
