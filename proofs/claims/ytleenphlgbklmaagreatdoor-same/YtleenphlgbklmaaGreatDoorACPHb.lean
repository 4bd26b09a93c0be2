import Derived.Test.YtleenphlgbklmaaGreatDoorACPGx
import Derived.Test.YtleenphlgbklmaaGreatDoorACPMq
set_option linter.unusedVariables false
set_option linter.unusedSimpArgs false
set_option maxRecDepth 100000
set_option maxHeartbeats 8000000
namespace Go.Proofs.YtleenphlgbklmaaGreatDoor
open Go.RowKit
open Tryz
variable {names:List BA}{w:World}{v:Value}
section
variable {ω:Type}(tl:List BA->Nat->List TR->St->ω->Option (Oc Unit×ω))(A:Nat->Addr)(B:Nat)(K:World->ω->Prop)(fuel:Nat)(wv:Value)
def TlO(ad:List Nat)(σ:St)(w:World)(e:Ending)(w':World)(o:ω):Oc Unit->Prop
 | .ok _=>e= .returned (.tuple #[])/\SX w' ad σ/\K w' o/\Kw B ad w w'
 | .er j=>Thr A j e/\K w' o/\Kw B ad w w'
def STl:Prop:=∀(names:List BA) (rd:Nat) (ts:List TR) (σ:St) (o:ω) (r:Oc Unit×ω),tl names rd ts σ o=some r->names.length=ts.length->rd<=fuel->∀(w:World) (ad:List Nat) (ng cap g:Nat) (d:Array Value) (vals:List Value),w.heap[ng]? =some (.cells d 9 (0,0))->(∀j (h:j<names.length),d[j]? =some (.string names[j]))->TRow w g vals->RVs ad ts vals->SX w ad σ->WS σ->GA A B ad w->K w o->
 Calls prog 237 #[.agg #[.int .i64 fuel,wv],.slice (some ⟨ng,0,none⟩) names.length cap,.int .i64 rd,.slice (some ⟨g,0,none⟩) ts.length ts.length] w fun e w'=>TlO A B K ad σ w e w' r.2 r.1
end
theorem Jg1{ω:Type}{D:X->St->ω->Option (Oc (TR×St)×ω)}:∀{xs:List X} {σ:St} {o d:ω} {q:List TR×St},Jbg D xs σ o=some (.ok q,d)->q.1.length=xs.length
 | [],σ,o,d,q,h=>by
  simp only[Jbg,Vaa,Vaf,Oc.ok.injEq]at h;rw[<-h.1];rfl
 |x::xs,σ,o,d,q,h=>by
  simp only[Jbg,Vab]at h;obtain⟨⟨r,o1⟩,_,h⟩:=h
  cases r with
  |er j=>simp at h
  |ok p=>
   simp only[Vab]at h;obtain⟨⟨r,G⟩,E,h⟩:=h
   cases r with
   |er j=>simp at h
   |ok I=>
    simp only[Vaa,Vaf,Oc.ok.injEq]at h;rw[<-h.1];simp[Jg1 E]
variable {own:List Bd}{σ:St}
theorem Jis{ω:Type}{D:X->St->ω->Option (Oc (TR×St)×ω)}{xs:List X}{o E:ω}{q:List TR×St}(h:rnd1 D xs own σ o=some (.ok q,E)):q.1.length=xs.length:=by
 simp only[rnd1,Vab]at h;obtain⟨⟨r,o1⟩,d,h⟩:=h
 cases r with
 |er j=>simp at h
 |ok p=>
  simp only[Vab,Vaa,Vaf,Oc.ok.injEq]at h;obtain⟨_,_,_,_,rfl,_⟩:=h;show p.1.length=_;exact Jg1 d
variable {vs:List X}{k rd:Nat}{ts:List TR}
theorem JgM{ω:Type}{tl:List BA->Nat->List TR->St->ω->Option (Oc Unit×ω)}{f:X->List Bd->St->ω->Option (Oc (TR×St)×ω)}{fuel:Nat}{o:ω}{res:Oc (List TR×St)×ω}(h:rndF tl f names vs own fuel (k+1) rd ts σ o=some res):
  ∃J E,rnd1 (fun x=>f x (grpF names ts own)) vs own σ o=some (J,E)/\((∃j,J= .er j/\res=(.er j,E))\/∃G d rt D,J= .ok (G,d)/\tl names rd G d E=some (rt,D)/\((∃j,rt= .er j/\res=(.er j,D))\/∃b,rt= .ok ()/\Jba d ts G=some b/\((b=true/\res=(.ok (G,d),D))\/(b=false/\rd=fuel/\res=(.er 5,D))\/(b=false/\rd≠fuel/\rndF tl f names vs own fuel k (rd+1) G d D=some res)))):=by
 simp only[rndF,Vab]at h;obtain⟨⟨r,E⟩,L,h⟩:=h
 cases r with
 |er j=>
  simp only[Vaa]at h;subst h;exact⟨.er j,E,by simp[rnd1,L],.inl ⟨j,rfl,rfl⟩⟩
 |ok q=>
  simp only[Vab]at h;obtain⟨bd,O,d,U,⟨rt,D⟩,ht,h⟩:=h;refine⟨.ok (q.1,d),E,by simp[rnd1,L,O,U],.inr ⟨q.1,d,rt,D,rfl,ht,?_⟩⟩
  cases rt with
  |er j=>
   simp only[Vaa]at h;subst h;exact .inl ⟨j,rfl,rfl⟩
  |ok u=>
   simp only[Vab]at h;obtain⟨b,T,h⟩:=h;refine .inr ⟨b,rfl,T,?_⟩
   cases b with
   |true=>
    simp only[Va0,Vaa]at h;exact .inl ⟨rfl,h.symm⟩
   |false=>
    simp only[Vao,VaS]at h
    by_cases I:rd=fuel
    .simp only[I,beq_self_eq_true,Va0,Vaa]at h;exact .inr (.inl ⟨rfl,I,h.symm⟩)
    .have M:(rd==fuel)=false:=by simpa using I
     simp only[M,Vao,VaS]at h;exact .inr (.inr ⟨rfl,I,h⟩)
structure LI{ω:Type}(A:Nat->Addr)(B:Nat)(K:World->ω->Prop)(gv:Gv)(fl:Int)(wv:Value)(w:World)(ad:List Nat)(own:List Bd)(p:Option Addr)(gm eb:Nat)(cs:Array Value)(ts:List TR)(σ:St)(o:ω)(wr:World)(ad2:List Nat)(g:Nat)(vals:List Value):Prop where
 row:TRow wr g vals
 rv:RVs ad2 ts vals
 ti:TI A B K wr ad2 σ own gv p gm o
 fx:FX wr w.heap.size (w.heap.size+1) eb fl wv p gm cs 341
 gk:Gk B ad ad2 w wr
 low:w.heap.size<=g
section
variable {ω:Type}{tl:List BA->Nat->List TR->St->ω->Option (Oc Unit×ω)}{A:Nat->Addr}{B:Nat}{K:World->ω->Prop}{gv:Gv}{fuel:Nat}{wv:Value}
variable {ad:List Nat}{p:Option Addr}{gm eb ng ncap gx cap:Nat}{q:Value}{dpt:Int}{ps:List Value}
theorem Jo3(hK:KOk K)(hR:KRw K){f:X->List Bd->St->ω->Option (Oc (TR×St)×ω)}(hf:STf A B K gv fuel wv f)(ht:STl tl A B K fuel wv){o:ω}{res:Oc (List TR×St)×ω}(h:rndF tl f names vs own fuel fuel 1 (anyF names.length σ).1 (anyF names.length σ).2 o=some res)(bE:fuel<=9000000000000000000)
 (hb:w.heap[eb]? =some (.cells #[.int .i64 dpt,.slice (some ⟨ng,0,none⟩) names.length ncap,.slice (some ⟨gx,0,none⟩) ps.length cap,q] 341 (0,0)))(hl:ps.length=vs.length)(aO:names.length=vs.length)(hm:ps.length<=1000000){aN az:Array Value}(hx:w.heap[gx]? =some (.cells aN 130 (0,0)))(aZ:∀j (h:j<ps.length),aN[j]? =some ps[j])(hn:w.heap[ng]? =some (.cells az 9 (0,0)))(be:∀j (h:j<names.length),az[j]? =some (.string names[j]))(a9:∀j (h:j<vs.length) (h2:j<ps.length),PX w (fun _=>True) vs[j] ps[j])(hT:TI A B K w ad σ own gv p gm o):
  Calls prog 223 #[.agg #[.int .i64 fuel,wv],.pointer (some ⟨eb,0,none⟩),.agg #[.pointer p,.map (some gm)]] w fun e w'=>RnO A B K ad w e w' res.2 res.1:=by
 obtain⟨hF,ax⟩:=Jce w eb fuel wv p gm hb;have c1:=hF.x (i:=1) (v:= .slice (some ⟨ng,0,none⟩) names.length ncap) rfl;have HA:Hid _:=Jqu (SX.kept hT.sx ax) hT.ws names.length (by omega);have HL:Hid _:=And.intro hl aO;have HH:Hid _:=h;have HX:Hid _:=And.intro hx aZ;have HN:Hid _:=And.intro hn be;have aL:Hid _:=a9;have HT:Hid _:=hT;have aT:Hid _:=ht;have a3:Hid _:=hf;have HB:Hid _:=hb;have an:Hid _:=ax;have HF:Hid _:=hF;have V:Hid (KOk K/\KRw K):=⟨hK,hR⟩
 clear hl aO h hx aZ hn be a9 hT ht hf hb ax hF hK hR
 go_enter func223,ntmps223
 go_wp2_with fail
 generalize(w.alloc (.cells #[.int .i64 fuel,wv] 172)).alloc (.cells #[.pointer p,.map (some gm)] 244)=bB at*;refine Vac HA.out ?_
 rintro e w1 ⟨g,vals,aG,rfl,a6,aI,a4,aQ,aW,af⟩;have a7:Gk B ad aG w w1:=(Gk.ofKt (Kt.of_kept an.out)).trans (Gk.of af)
 have HI:Hid (LI A B K gv fuel wv w ad own p gm eb #[.int .i64 dpt,.slice (some ⟨ng,0,none⟩) names.length ncap,.slice (some ⟨gx,0,none⟩) ps.length cap,q] (anyF names.length σ).1 (anyF names.length σ).2 o w1 aG g vals):=by
  have bc:=HT.out.kept V.out.1 an.out;exact⟨a6,aI,bc.to (Gk.of af) a4 aQ (V.out.1 _ _ _ _ bc.k af.kt),FX.gk (B:=B) HF.out (Gk.of af) (by decide),a7,Vas an.out.size aW⟩
 have aU:Hid ((anyF names.length σ).1.length=names.length):=by
  show _=_;rw[Jg5];simp
 clear a6 aI a4 aQ a7 af aW HA;generalize(anyF names.length σ).1=bn at*;generalize(anyF names.length σ).2=σ0 at*
 go_wp2_with fail
 go_loopw [7,8] (fun s i wr=>∃(k rd:Nat) (ts:List TR) (σ1:St) (o1:ω) (am:List Nat) (g:Nat) (vals:List Value),rd+k=fuel+1/\s= .slice (some ⟨g,0,none⟩) names.length names.length/\i= .int .i64 rd/\Hid (ts.length=names.length)/\Hid (rndF tl f names vs own fuel k rd ts σ1 o1=some res)/\Hid (LI A B K gv fuel wv w ad own p gm eb #[.int .i64 dpt,.slice (some ⟨ng,0,none⟩) names.length ncap,.slice (some ⟨gx,0,none⟩) ps.length cap,q] ts σ1 o1 wr am g vals)) (fun _ i _=>fuel+1-(intOf i).toNat)
 case atStart=>exact⟨fuel,1,bn,σ0,o,aG,g,vals,by omega,rfl,rfl,aU,HH,HI⟩
 case round=>
  obtain⟨k,rd,ts,σ1,o1,am,g1,ae,bF,rfl,rfl,aq,ay,aR⟩:=hrel
  cases k with
  |zero=>exact absurd ay.out (by simp[rndF])
  |succ k=>
  obtain⟨rr,o2,aa,a8⟩:=JgM ay.out;have aF:Hid _:=a8;have hF:=aR.out;have M:=Kept.drew wr;have au:=hF.fx.kept M;have ac:Gk B ad am w wr.drew:=hF.gk.trans (Gk.ofKt (Kt.of_kept M));have O:=hF.ti.kept V.out.1 M
  have HC:Hid (Calls prog 200 #[.agg #[.pointer p,.map (some gm)],.slice (some ⟨ng,0,none⟩) names.length ncap,.slice (some ⟨g1,0,none⟩) names.length names.length] wr.drew fun e w2=>∃q2,e= .returned (.agg #[.pointer q2,.map (some gm)])/\w2.cell? ⟨w.heap.size,0,none⟩=some (.int .i64 fuel)/\w2.cell? ⟨w.heap.size,1,none⟩=some wv/\w2.cell? ⟨w.heap.size+1,0,none⟩=some (.pointer p)/\w2.cell? ⟨w.heap.size+1,1,none⟩=some (.map (some gm))/\w2.cell? ⟨eb,1,none⟩=some (.slice (some ⟨ng,0,none⟩) names.length ncap)/\
    Hid (Calls prog 236 #[.agg #[.int .i64 fuel,wv],.pointer (some ⟨eb,0,none⟩),.agg #[.pointer q2,.map (some gm)],.agg #[.pointer p,.map (some gm)]] w2 fun e d=>(∃a,e=thrown (.iface 407 (.pointer (some a)))/\RnO A B K ad w (thrown (.iface 407 (.pointer (some a)))) d res.2 res.1)\/(∃E,e= .returned (.slice (some ⟨E,0,none⟩) names.length names.length)/\d.cell? ⟨w.heap.size,0,none⟩=some (.int .i64 fuel)/\d.cell? ⟨w.heap.size,1,none⟩=some wv/\d.cell? ⟨w.heap.size+1,0,none⟩=some (.pointer p)/\d.cell? ⟨w.heap.size+1,1,none⟩=some (.map (some gm))/\d.cell? ⟨eb,1,none⟩=some (.slice (some ⟨ng,0,none⟩) names.length ncap)/\Hid (∃Y σ2 D T,rr= .ok (Y,σ2)/\Y.length=names.length/\TRow d g1 ae/\RVs D ts ae/\LI A B K gv fuel wv w ad own p gm eb #[.int .i64 dpt,.slice (some ⟨ng,0,none⟩) names.length ncap,.slice (some ⟨gx,0,none⟩) ps.length cap,q] Y σ2 o2 d D E T)))):=by
   have bk:names.length=ts.length:=aq.out.symm;have bh:=ac.oth (by decide) HN.out.1;have a0:=hF.row;refine(JeW (R:=RV am) (ts:=ts) (vals:=ae) (own:=own) bk hF.rv.1 (by have:=HL.out;omega) (fun j h=>by simp[World.cell?,bh,HN.out.2 j h]) (fun j h=>(TRow.kt a0 (Kt.of_kept (ad:= []) M)).cell j h) (fun v hv=> ?_) hF.rv.2 O.ch).mono ?_
   .obtain⟨j,hj,rfl⟩:=Vcb.1 hv;exact .inr (hF.rv.2 j (by rw[<-hF.rv.1];exact hj) hj).iface
   .rintro e w2 ⟨q2,rfl,bp,ag⟩;have av:=au.kept ag;have aj:=ac.trans (Gk.ofKt (Kt.of_kept ag));obtain⟨d0,d1,d2,d3⟩:=av.c;refine⟨q2,rfl,d0,d1,d2,d3,av.x (i:=1) rfl,?_⟩
    refine(Jm0 V.out.1 V.out.2 a3.out aa av.ex HL.out.1 hm (aj.oth (by decide) HX.out.1) HX.out.2 (fun j h h2=>(aL.out j h h2).gk aj) (O.kept V.out.1 ag) bp).mono ?_
    intro e d G
    cases rr with
    |er j=>
     rcases aF.out with⟨j',I,rfl⟩|⟨_,_,_,_,I,_⟩
     .cases I
      exact .inl ⟨_,G.1,rfl,G.2.1,(aj.trans (Gk.ofKw G.2.2)).kw⟩
     .cases I
    |ok q3=>
     obtain⟨E,T,D,rfl,bj,bi,al,bf,bu,bw,ah⟩:=G;have aB:=av.gk ah (by decide);obtain⟨f0,f1,f2,f3⟩:=aB.c;have aM:q3.1.length=names.length:=(Jis aa).trans HL.out.2.symm;rw[aM];have ao:TRow d g1 ae:=ah.oth (by decide) (ag.blk (M.blk a0));exact .inr ⟨E,rfl,f0,f1,f2,f3,aB.x (i:=1) rfl,q3.1,q3.2,D,T,rfl,aM,ao,hF.rv.gk ah,bi,al,(O.kept V.out.1 ag).to ah bf bu bw,aB,aj.trans ah,Vas aj.kw.size bj⟩
  obtain⟨c0,c1,c2,c3⟩:=au.c;have c4:=au.x (i:=1) (v:= .slice (some ⟨ng,0,none⟩) names.length ncap) rfl;clear aa a8 hF M au ac O HI aR ay HX aL HT HB HF HH an a3 aU
  go_wp2_with fail
  go_region_held2 (fun w'=>w'.cell? ⟨w.heap.size,0,none⟩=some (.int .i64 fuel)/\w'.cell? ⟨w.heap.size,1,none⟩=some wv/\w'.cell? ⟨w.heap.size+1,0,none⟩=some (.pointer p)/\w'.cell? ⟨w.heap.size+1,1,none⟩=some (.map (some gm))/\w'.cell? ⟨eb,1,none⟩=some (.slice (some ⟨ng,0,none⟩) names.length ncap)) (go_keep) (first|(go_at_call 200;refine Vac HC.out ?_;rintro e w2 ⟨q2,rfl,d0,d1,d2,d3,d4,HD⟩;clear HC)|(go_at_call 236;refine Vac HD.out ?_;rintro e d (⟨a,rfl,G⟩|⟨E,rfl,f0,f1,f2,f3,f4,HE⟩);exact⟨rfl,G⟩;clear HD))
  obtain⟨Y,σ2,D,T,rfl,ak,ao,al,Z⟩:=HE.out
  rcases aF.out with⟨j,I,_⟩|⟨bG,bD,rt,o3,I,ba,aK⟩
  .cases I
  cases I
  have aD:Hid _:=aK
  have aY:Hid (Calls prog 237 #[.agg #[.int .i64 fuel,wv],.slice (some ⟨ng,0,none⟩) names.length ncap,.int .i64 rd,.slice (some ⟨E,0,none⟩) names.length names.length] d.drew fun e J=>(∃a,e=thrown (.iface 407 (.pointer (some a)))/\RnO A B K ad w (thrown (.iface 407 (.pointer (some a)))) J res.2 res.1)\/(e= .returned (.tuple #[])/\J.cell? ⟨w.heap.size,0,none⟩=some (.int .i64 fuel)/\J.cell? ⟨w.heap.size,1,none⟩=some wv/\J.cell? ⟨eb,1,none⟩=some (.slice (some ⟨ng,0,none⟩) names.length ncap)/\Hid (rt= .ok ()/\TRow J g1 ae/\RVs D ts ae/\LI A B K gv fuel wv w ad own p gm eb #[.int .i64 dpt,.slice (some ⟨ng,0,none⟩) names.length ncap,.slice (some ⟨gx,0,none⟩) ps.length cap,q] Y σ2 o3 J D E T))):=by
   have M:=Kept.drew d;have O:=Z.ti.kept V.out.1 M;have ac:Gk B ad D w d.drew:=Z.gk.trans (Gk.ofKt (Kt.of_kept M));have aS:TRow d.drew E T:=M.blk Z.row;have h0:=aT.out names rd Y σ2 o2 (rt,o3) ba ak.symm (by omega) d.drew D ng ncap E az T (ac.oth (by decide) HN.out.1) HN.out.2 aS Z.rv O.sx O.ws O.ga O.k;rw[ak]at h0;refine h0.mono ?_
   intro e J G
   cases rt with
   |er j=>
    rcases aD.out with⟨j',I,rfl⟩|⟨_,I,_⟩
    .cases I
     exact .inl ⟨_,G.1,rfl,G.2.1,(ac.trans (Gk.ofKw G.2.2)).kw⟩
    .cases I
   |ok u=>
    obtain⟨rfl,bv,bA,bg⟩:=G;have ai:Gk B D D d.drew J:=Gk.ofKw bg;have aw:=(Z.fx.kept M).gk ai (by decide);obtain⟨m0,m1,m2,m3⟩:=aw.c;have aa:TRow J g1 ae:=ai.oth (by decide) (M.blk ao);have br:TRow J E T:=ai.oth (by decide) aS;exact .inr ⟨rfl,m0,m1,aw.x (i:=1) rfl,rfl,aa,al,br,Z.rv,O.to ai bv O.ws bA,aw,ac.trans ai,Z.low⟩
  have e0:d.drew.cell? ⟨w.heap.size,0,none⟩=some (.int .i64 fuel):=f0;have e1:d.drew.cell? ⟨w.heap.size,1,none⟩=some wv:=f1;have e4:d.drew.cell? ⟨eb,1,none⟩=some (.slice (some ⟨ng,0,none⟩) names.length ncap):=f4;clear aK ba Z al ao HE aF HN aT;have aA:Hid _:=ak;clear ak
  go_wp2_with fail
  go_region_held2 (fun w'=>w'.cell? ⟨w.heap.size,0,none⟩=some (.int .i64 fuel)/\w'.cell? ⟨w.heap.size,1,none⟩=some wv/\w'.cell? ⟨eb,1,none⟩=some (.slice (some ⟨ng,0,none⟩) names.length ncap)) (go_keep) (first|(go_at_call 237;refine Vac aY.out ?_;rintro e J (⟨a,rfl,G⟩|⟨rfl,m0,m1,m2,HM⟩);exact⟨rfl,G⟩;clear aY))
  obtain⟨rfl,aa,a1,L⟩:=HM.out
  rcases aD.out with⟨_,I,_⟩|⟨b,_,aP,a5⟩
  .cases I
  have bx:Hid _:=a5
  have HS:Hid (Calls prog 238 #[.slice (some ⟨g1,0,none⟩) names.length names.length,.slice (some ⟨E,0,none⟩) names.length names.length] J fun e U=>e= .returned (.bool b)/\U.cell? ⟨w.heap.size,0,none⟩=some (.int .i64 fuel)/\Hid (LI A B K gv fuel wv w ad own p gm eb #[.int .i64 dpt,.slice (some ⟨ng,0,none⟩) names.length ncap,.slice (some ⟨gx,0,none⟩) ps.length cap,q] Y σ2 o3 U D E T)):=by
   have h0:=Jna (cap:=names.length) (cap2:=names.length) aP (aA.out.trans aq.out.symm) (by have:=aq.out;have:=HL.out;omega) L.ti.sx aa L.row a1 L.rv;rw[show ts.length=names.length from aq.out]at h0;refine h0.mono ?_
   rintro e U ⟨rfl,bm,aC⟩;have aH:Gk B D D J U:=Gk.ofKt aC;have aJ:=L.fx.gk aH (by decide);exact⟨rfl,aJ.c.1,TRow.kt L.row aC,L.rv,L.ti.to aH bm L.ti.ws (V.out.1 _ _ _ _ L.ti.k aC),aJ,L.gk.trans aH,L.low⟩
  clear a5 aP L a1 aa HM aD
  rcases bx.out with⟨rfl,rfl⟩|⟨rfl,a2,rfl⟩|⟨rfl,a2,aX⟩
  .go_wp2_with fail
   refine Vac HS.out ?_
   rintro e U ⟨rfl,n0,W⟩;clear HS
   have aE:Hid (RnO A B K ad w (.returned (.slice (some ⟨E,0,none⟩) names.length names.length)) U o3 (.ok (Y,σ2))):=by
    have h:=W.out;exact⟨E,T,D,by rw[aA.out],h.low,h.row,h.rv,h.ti.sx,h.ti.ws,h.ti.k,h.gk⟩
   clear W
   go_wp2
   exact VaI (VdO results223 _ _ _) rfl aE.out
  .subst a2
   go_wp2_with fail
   refine Vac HS.out ?_
   rintro e U ⟨rfl,n0,W⟩;clear HS;have hg:=W.out.ti.ga.glb.c5;have bb:Hid _:=Jbl (A 5) U;have aE:Hid (RnO A B K ad w (thrown (.iface 407 (.pointer (some (A 5))))) U o3 (.er 5)):=⟨rfl,W.out.ti.k,W.out.gk.kw⟩
   clear W
   go_wp2_with fail
   refine Vac bb.out ?_
   rintro e w' ⟨rfl,aV⟩;rw[aV];clear aV w' bb
   go_wp2
   exact⟨rfl,aE.out⟩
  .go_wp2_with fail
   refine Vac HS.out ?_
   rintro e U ⟨rfl,n0,W⟩;clear HS;have bC: ¬(rd:Int)=(fuel:Int):=by omega
   have bs:Hid _:=aX;clear aX
   go_wp2
   go_roundw
   case measure=>simp[intOf];omega
   case rel=>exact⟨k,rd+1,Y,σ2,o3,D,E,T,by omega,rfl,by go_num,aA,bs,W⟩
end
section
variable {ω:Type}{tl:List BA->Nat->List TR->St->ω->Option (Oc Unit×ω)}{A:Nat->Addr}{B:Nat}{K:World->ω->Prop}{gv:Gv}{fuel:Nat}{wv:Value}
theorem Jit{f:X->List Bd->St->ω->Option (Oc (TR×St)×ω)}{names:List BA}{vs:List X}{own:List Bd}:∀{k rd:Nat} {ts:List TR} {σ:St} {o d:ω} {q:List TR×St},rndF tl f names vs own fuel k rd ts σ o=some (.ok q,d)->q.1.length=vs.length
 |0,_,_,_,_,_,_,h=>by simp[rndF]at h
 |k+1,rd,ts,σ,o,d,q,h=>by
  obtain⟨T,O,G,D⟩:=JgM h
  rcases D with⟨j,_,e⟩|⟨M,L,rt,J,rfl,_,I⟩
  .simp at e
  .rcases I with⟨j,_,e⟩|⟨b,_,_,E⟩
   .simp at e
   .rcases E with⟨_,e⟩|⟨_,_,e⟩|⟨_,_,e⟩
    .simp only[Vaf,Oc.ok.injEq]at e;rw[e.1];exact Jis G
    .simp at e
    .exact Jit e
variable {y:X}{ad:List Nat}{p:Option Addr}{gm eb ng ncap gx cap:Nat}{q:Value}{dpt:Int}{ps:List Value}
theorem JqT(Z:KOk K)(hR:KRw K){f:X->List Bd->St->ω->Option (Oc (TR×St)×ω)}(hf:STf A B K gv fuel wv f)(ht:STl tl A B K fuel wv)(aG:fuel<=9000000000000000000){o:ω}{res:Oc (TR×St)×ω}(h:recF tl f fuel names vs y own σ o=some res)
 (hb:w.heap[eb]? =some (.cells #[.int .i64 dpt,.slice (some ⟨ng,0,none⟩) names.length ncap,.slice (some ⟨gx,0,none⟩) ps.length cap,q] 341 (0,0)))(hl:ps.length=vs.length)(af:names.length=vs.length){aq au:Array Value}(hx:w.heap[gx]? =some (.cells aq 130 (0,0)))(av:∀j (h:j<ps.length),aq[j]? =some ps[j])(hn:w.heap[ng]? =some (.cells au 9 (0,0)))(an:∀j (h:j<names.length),au[j]? =some (.string names[j]))(ax:∀j (h:j<vs.length) (h2:j<ps.length),PX w (fun _=>True) vs[j] ps[j])(hy:PX w (fun _=>True) y q)(hT:TI A B K w ad σ own gv p gm o):
  Calls prog 206 #[.agg #[.int .i64 fuel,wv],.pointer (some ⟨eb,0,none⟩),.agg #[.pointer p,.map (some gm)]] w fun e w'=>TyO A B K ad w e w' res.2 res.1:=by
 have hm:ps.length<=1000000:=by
  by_cases hc:names.length<=1000000
  .omega
  .simp[recF,hc]at h
 have aF:names.length<=1000000:=by omega
 simp only[recF,aF,Va0,Vab]at h;obtain⟨⟨r1,o1⟩,h1,h⟩:=h;obtain⟨hF,G⟩:=Jce w eb fuel wv p gm hb;obtain⟨Ty,L,rfl⟩:=hy.iface
 have HC:Hid (Calls prog 223 #[.agg #[.int .i64 fuel,wv],.pointer (some ⟨eb,0,none⟩),.agg #[.pointer p,.map (some gm)]] ((w.alloc (.cells #[.int .i64 fuel,wv] 172)).alloc (.cells #[.pointer p,.map (some gm)] 244)) fun e J=>(∃a,e=thrown (.iface 407 (.pointer (some a)))/\TyO A B K ad w (thrown (.iface 407 (.pointer (some a)))) J res.2 res.1)\/(∃g,e= .returned (.slice (some ⟨g,0,none⟩) names.length names.length)/\Hid (∃ts σ1 M vals,r1= .ok (ts,σ1)/\ts.length=names.length/\LI A B K gv fuel wv w ad own p gm eb #[.int .i64 dpt,.slice (some ⟨ng,0,none⟩) names.length ncap,.slice (some ⟨gx,0,none⟩) ps.length cap,.iface Ty L] ts σ1 o1 J M g vals))):=by
  have ah:Gk B ad ad w ((w.alloc (.cells #[.int .i64 fuel,wv] 172)).alloc (.cells #[.pointer p,.map (some gm)] 244)):=Gk.ofKt (Kt.of_kept G);refine(Jo3 Z hR hf ht h1 aG (G.blk hb) hl af hm (G.blk hx) av (G.blk hn) an (fun j a b=>(ax j a b).gk ah) (hT.kept Z G)).mono ?_
  intro e J I
  cases r1 with
  |er j=>
   simp only[Vaa]at h;subst h;exact .inl ⟨_,I.1,rfl,I.2.1,(ah.trans (Gk.ofKw I.2.2)).kw⟩
  |ok q3=>
   obtain⟨g,vals,M,rfl,aC,aI,ay,aH,aB,aJ,ak⟩:=I;have U:q3.1.length=names.length:=(Jit h1).trans af.symm;rw[U];exact .inr ⟨g,rfl,q3.1,q3.2,M,vals,rfl,U,aI,ay,(hT.kept Z G).to ak aH aB aJ,hF.gk ak (by decide),ah.trans ak,Vas G.size aC⟩
 have HH:Hid _:=h;have HN:Hid _:=And.intro hn an;have HY:Hid _:=hy;have aw:Hid _:=hf;have ao:Hid (KOk K):=Z;have aD:Hid (names.length<=1000000):=by show _<=_;omega
 clear h1 h hF G hf ht hT hy ax an hn av hx hl af hb Z hR
 go_enter func206,ntmps206
 go_wp2_with fail
 generalize(w.alloc (.cells #[.int .i64 fuel,wv] 172)).alloc (.cells #[.pointer p,.map (some gm)] 244)=aK at*;refine Vac HC.out ?_
 rintro e J (⟨a,rfl,I⟩|⟨g,rfl,HE⟩)
 .go_wp2
  exact⟨rfl,I⟩
 .clear HC;obtain⟨ts,σ1,M,vals,rfl,U,D⟩:=HE.out;have hh:f y (grpF names ts own) σ1 o1=some res:=HH.out;have V:=Kept.drew J;have aa:=D.fx.kept V;have ae:Gk B ad M w J.drew:=D.gk.trans (Gk.ofKt (Kt.of_kept V));have aj:=D.ti.kept ao.out V
  have HC:Hid (Calls prog 200 #[.agg #[.pointer p,.map (some gm)],.slice (some ⟨ng,0,none⟩) names.length ncap,.slice (some ⟨g,0,none⟩) names.length names.length] J.drew fun e E=>∃Y,e= .returned (.agg #[.pointer Y,.map (some gm)])/\E.cell? ⟨w.heap.size,0,none⟩=some (.int .i64 fuel)/\E.cell? ⟨w.heap.size,1,none⟩=some wv/\E.cell? ⟨w.heap.size+1,0,none⟩=some (.pointer p)/\E.cell? ⟨w.heap.size+1,1,none⟩=some (.map (some gm))/\E.cell? ⟨eb,1,none⟩=some (.slice (some ⟨ng,0,none⟩) names.length ncap)/\E.cell? ⟨eb,3,none⟩=some (.iface Ty L)/\
    Hid (Calls prog 127 #[.agg #[.int .i64 fuel,wv],.iface Ty L,.agg #[.pointer Y,.map (some gm)]] E fun e d=>(∃a,e=thrown (.iface 407 (.pointer (some a)))/\TyO A B K ad w (thrown (.iface 407 (.pointer (some a)))) d res.2 res.1)\/(∃T W,e= .returned (.iface T W)/\d.cell? ⟨w.heap.size,0,none⟩=some (.int .i64 fuel)/\d.cell? ⟨w.heap.size,1,none⟩=some wv/\d.cell? ⟨w.heap.size+1,0,none⟩=some (.pointer p)/\d.cell? ⟨w.heap.size+1,1,none⟩=some (.map (some gm))/\d.cell? ⟨eb,1,none⟩=some (.slice (some ⟨ng,0,none⟩) names.length ncap)/\d.cell? ⟨eb,3,none⟩=some (.iface Ty L)/\Hid (TyO A B K ad w (.returned (.iface T W)) d res.2 res.1)))):=by
   have aA:=ae.oth (by decide) HN.out.1;refine(JeW (R:=RV M) (ts:=ts) (vals:=vals) (own:=own) U.symm D.rv.1 aD.out (fun j h=>by simp[World.cell?,aA,HN.out.2 j h]) (fun j h=>(TRow.kt D.row (Kt.of_kept (ad:= []) V)).cell j h) (fun v hv=> ?_) D.rv.2 aj.ch).mono ?_
   .obtain⟨j,hj,rfl⟩:=Vcb.1 hv;exact .inr (D.rv.2 j (by rw[<-D.rv.1];exact hj) hj).iface
   .rintro e E ⟨Y,rfl,aE,ai⟩;have ac:=aa.kept ai;have am:=ae.trans (Gk.ofKt (Kt.of_kept ai));have O:=aj.kept ao.out ai;obtain⟨d0,d1,d2,d3⟩:=ac.c;refine⟨Y,rfl,d0,d1,d2,d3,ac.x (i:=1) rfl,ac.x (i:=3) rfl,?_⟩
    refine(STf.call (r1:=res.1) (o1:=res.2) aw.out hh (HY.out.gk am) ⟨O.sx,O.ws,O.ga,aE,O.gm,O.k⟩).mono ?_
    rintro e d (⟨j,ej,rfl,hk,hw⟩|⟨q3,T,W,az,ej,rfl,hv,ag,hg⟩)
    .rw[ej];exact .inl ⟨_,rfl,rfl,hk,(am.trans (Gk.ofKw hw)).kw⟩
    .have al:=ac.gk hg (by decide);obtain⟨f0,f1,f2,f3⟩:=al.c;rw[ej];exact .inr ⟨T,W,rfl,f0,f1,f2,f3,al.x (i:=1) rfl,al.x (i:=3) rfl,_,az,rfl,hv,ag.sx,ag.ws,ag.k,am.trans hg⟩
  obtain⟨c0,c1,c2,c3⟩:=aa.c;have c4:=aa.x (i:=1) (v:= .slice (some ⟨ng,0,none⟩) names.length ncap) rfl;have c5:=aa.x (i:=3) (v:= .iface Ty L) rfl;clear hh V aa ae aj D HE HH HN HY aw U
  go_wp2_with fail
  go_region_held2 (fun w'=>w'.cell? ⟨w.heap.size,0,none⟩=some (.int .i64 fuel)/\w'.cell? ⟨w.heap.size,1,none⟩=some wv/\w'.cell? ⟨w.heap.size+1,0,none⟩=some (.pointer p)/\w'.cell? ⟨w.heap.size+1,1,none⟩=some (.map (some gm))/\w'.cell? ⟨eb,1,none⟩=some (.slice (some ⟨ng,0,none⟩) names.length ncap)/\w'.cell? ⟨eb,3,none⟩=some (.iface Ty L)) (go_keep) (first|(go_at_call 200;refine Vac HC.out ?_;rintro e E ⟨Y,rfl,d0,d1,d2,d3,d4,d5,HD⟩;clear HC)|(go_at_call 127;refine Vac HD.out ?_;rintro e d (⟨a,rfl,I⟩|⟨T,W,rfl,f0,f1,f2,f3,f4,f5,HE⟩);exact⟨rfl,I⟩;clear HD))
  all_goals
   go_wp2
   exact VaI (VdO results206 _ _ _) rfl HE.out
end
variable {xs:List Value}{n:Nat}
theorem Jnk{d:Array Value}(h:d.toList.take n=xs)(j:Nat)(D:j<xs.length):d[j]? =some xs[j]:=by
 subst h;simp only[Vc4]at D;rw[Vcz,<-Vem,Vav (by omega)]
variable {e:TypeId}
theorem JfO(h:w.ownsRow 0 e 1 v xs.length xs)(L:xs≠ []):∃g cap d,v= .slice (some ⟨g,0,none⟩) xs.length cap/\w.heap[g]? =some (.cells d e (0,0))/\∀j (h:j<xs.length),d[j]? =some xs[j]:=by
 rcases h.2 with⟨_,E⟩|⟨g,cap,d,I,_,J,_,_,_,D⟩
 .exact absurd (Vc3.1 E) L
 .rw[Nat.mul_one]at D;exact⟨g,cap,d,I,J,fun j G=>Jnk D j G⟩
variable {P:Nat->Prop}{y:X}{loc:Nat}
theorem Joh{t:X}(h:PX w P t v)(ht:t= .mk ⟨#[114,101,99]⟩ names (vs++ [y]) loc):∃(b:Nat) (d D q:Value) (ps:List Value),names≠ []/\v= .iface 274 (.pointer (some ⟨b,0,none⟩))/\w.heap[b]? =some (.cells #[.int .i64 (max (dps vs) (dp y)+1:Nat),d,D,q] 341 (0,0))/\w.ownsRow 0 9 1 d names.length (names.map Value.string)/\w.ownsRow 0 130 1 D ps.length ps/\ps.length=vs.length/\names.length=vs.length/\(∀(j:Nat) (x:X) (p:Value),vs[j]? =some x->ps[j]? =some p->PX w P x p)/\PX w P y q:=by
 cases h with
 |rc aa kids U Z b d D q ps V _ _ T W J _ _ L I G M=>
  simp only[X.mk.injEq,VbG]at ht;obtain⟨rfl,E,rfl⟩:=ht
  have O:U=y:=by
   have:=VbH List.getLast? E;simpa using this
  subst O;have Y:kids=vs:=by simpa using E
  subst Y;exact⟨b,d,D,q,ps,V,rfl,T,W,J,L,I,G,M⟩
 |_=>simp at ht
section
variable {ω:Type}{tl:List BA->Nat->List TR->St->ω->Option (Oc Unit×ω)}{A:Nat->Addr}{B:Nat}{K:World->ω->Prop}{gv:Gv}{fuel:Nat}{wv:Value}
theorem Jrx(O:KOk K)(hR:KRw K)(af:fuel<=9000000000000000000)(ht:STl tl A B K fuel wv){f:X->List Bd->St->ω->Option (Oc (TR×St)×ω)}(W:STf A B K gv fuel wv f):SGr tl A B K gv fuel wv f:=by
 intro names vs y loc own σ o res h w ad eb p gm hx M;obtain⟨b,V,vv,q,ps,I,G,d,hn,T,E,D,ac,Z⟩:=Joh hx rfl;simp only[Va7,VbX,Vaa,Addr.mk.injEq,VbG,Vbo]at G;subst G;have Y:w.ownsRow 0 9 1 V (names.map Value.string).length (names.map Value.string):=by rw[Vbe];exact hn
 obtain⟨ng,ncap,ah,rfl,L,aa⟩:=JfO Y (by simpa using I);have ae:ps≠ []:=fun z=>I (Vc3.1 (by rw[D,<-E,z];rfl))
 obtain⟨gx,cap,ag,rfl,U,J⟩:=JfO T ae;rw[Vbe]at d;exact JqT O hR W ht af h d E D U J L (fun j hj=>by have:=aa j (by simpa using hj);simpa using this) (fun j a c=>ac j _ _ (Vav a) (Vav c)) Z M
end
variable {V:World}{b i:Nat}{t:TypeId}
theorem JbJ{d:Array Value}(h:V.heap[b]? =some (.cells d t (0,0)))(D:d[i]? =some v):V.cell? ⟨b,i,none⟩=some v:=by simp[World.cell?,h,D]
theorem Jnl{fuel:Nat}(w:World)(a b:Option Addr)(E I D c2:Nat)(rd:Nat):Calls prog 237 #[.agg #[.int .i64 fuel,.nilFunc],.slice a E I,.int .i64 rd,.slice b D c2] w fun e w'=>e= .returned (.tuple #[])/\Kept w w':=by
 have hk:=Kept.alloc w (.cells #[.int .i64 fuel,.nilFunc] 172);have d:=Vag w (.cells #[.int .i64 fuel,.nilFunc] 172);have c:(w.alloc (.cells #[.int .i64 fuel,.nilFunc] 172)).cell? ⟨w.heap.size,1,none⟩=some .nilFunc:=JbJ d rfl;have G:Hid _:=hk;have J:∀W,(binOp .eql 128 .nilFunc .nilFunc).run prog W= .ok (.bool true) W:=fun W=>by kernel_rfl
 clear hk d
 go_enter func237,ntmps237
 go_wp2
 exact VaI (Va3 results237 _ _ _) rfl ⟨rfl,G.out⟩
theorem Jp6{A:Nat->Addr}{B fuel:Nat}:STl tlN A B KN fuel .nilFunc:=by
 intro names rd ts σ o r h _ _ w ad ng cap g D vals _ _ _ _ d _ _ _
 cases h
 refine(Jnl w _ _ _ _ _ _ rd).mono ?_
 rintro e w' ⟨rfl,hk⟩;exact⟨rfl,SX.kept d hk,trivial,(Gk.ofKt (B:=B) (Kt.of_kept hk)).kw⟩
theorem KN.rw:KRw KN:=fun _ _ _ _ _ _ _ _=>trivial
theorem Jrw{A:Nat->Addr}{B fuel:Nat}{gv:Gv}(D:fuel<=9000000000000000000)(f:X->List Bd->St->Unit->Option (Oc (TR×St)×Unit))(d:STf A B KN gv fuel .nilFunc f):SGr tlN A B KN gv fuel .nilFunc f:=Jrx KN.ok KN.rw D Jp6 d
end Go.Proofs.YtleenphlgbklmaaGreatDoor
