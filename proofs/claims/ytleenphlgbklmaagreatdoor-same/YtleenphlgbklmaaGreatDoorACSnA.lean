import Derived.Test.YtleenphlgbklmaaGreatDoorACSmZ
set_option linter.unusedVariables false
set_option linter.unusedSimpArgs false
set_option maxRecDepth 100000
set_option maxHeartbeats 8000000
namespace Go.Proofs.YtleenphlgbklmaaGreatDoor
open Go.RowKit
open Kept renaming alloc → Vet
open Tryz
variable {W:World}{B:Nat}{a b:Int}{c:BA}
def fQ(W:World)(B:Nat)(a b:Int)(c:BA):Prop:=W.heap[B]? =some (.cells #[.int .i64 a,.int .i64 b,.string c,.int .i64 0,.int .i64 0] 23 (0,0))
def Jgi(a b:Int)(c:BA):Obj:= .cells #[.int .i64 a,.int .i64 b,.string c,.int .i64 0,.int .i64 0] 23
variable {W':World}
theorem fQ.kept(h:fQ W B a b c)(hk:Kept W W'):fQ W' B a b c:=hk.blk h
theorem fQ.cells(h:fQ W B a b c):W.cell? ⟨B,0,none⟩=some (.int .i64 a)/\W.cell? ⟨B,1,none⟩=some (.int .i64 b)/\W.cell? ⟨B,2,none⟩=some (.string c)/\W.cell? ⟨B,3,none⟩=some (.int .i64 0)/\W.cell? ⟨B,4,none⟩=some (.int .i64 0)/\∀j,W.frozen? ⟨B,j,none⟩=false:=by
 unfold fQ at h;refine⟨?_,?_,?_,?_,?_,fun j=> ?_⟩<;>simp[World.cell?,World.frozen?,h]
theorem fQ.at0(h:fQ W B a b c):W.cell? ⟨B,0,none⟩=some (.int .i64 a):=h.cells.1
theorem fQ.new(W:World)(a b:Int)(c:BA):fQ (W.alloc (Jgi a b c)) W.heap.size a b c:=Vag _ _
theorem fQ.lt(h:fQ W B a b c):B<W.heap.size:=Vah h
def su5(W:World)(B:Nat)(v0 v1 v2 v3 v4:Value):World:=((((W.setCell ⟨B,0,none⟩ v0).setCell ⟨B,1,none⟩ v1).setCell ⟨B,2,none⟩ v2).setCell ⟨B,3,none⟩ v3).setCell ⟨B,4,none⟩ v4
theorem JeR(W:World)(B:Nat)(v0 v1 v2 v3 v4:Value)(q:Nat)(d:q≠B):(su5 W B v0 v1 v2 v3 v4).heap[q]? =W.heap[q]? :=by
 have e:∀(W:World) (j:Nat) (v:Value),(W.setCell ⟨B,j,none⟩ v).heap[q]? =W.heap[q]? :=fun W j v=>Vaj _ _ _ q (by intro z;exact d z)
 exact(e _ _ _).trans ((e _ _ _).trans ((e _ _ _).trans ((e _ _ _).trans (e _ _ _))))
theorem JhL(W:World)(B:Nat)(E d D I G v0 v1 v2 v3 v4:Value)(T:TypeId)(h:W.heap[B]? =some (.cells #[E,d,D,I,G] T (0,0))):(su5 W B v0 v1 v2 v3 v4).heap[B]? =some (.cells #[v0,v1,v2,v3,v4] T (0,0)):=by
 unfold su5;simp[World.setCell,h,Vay]
variable {v0 v1 v2 v3 v4:Value}
theorem JfT{w:World}(h:Kept w W)(E:w.heap.size<=B):Kept w (su5 W B v0 v1 v2 v3 v4):=by
 have d:∀{W:World} {j:Nat} {v:Value},Kept w W->Kept w (W.setCell ⟨B,j,none⟩ v):=fun{W j v} h=>⟨h.1,h.2,by simpa using h.3,fun q D=>(Vaj _ _ _ q (by intro z;have z:q=B:=z;omega)).trans (h.4 q D)⟩
 exact d (d (d (d (d h))))
section
variable {w:World}{src shw tT sT tU sU tR tL sL tI sI tP sP:BA}{wS lS wT lT wU lU wR lR wL lL wI lI wP lP:Int}
theorem Jli(hs:shw.size<=200000)(bn:tP.size<=100000)
 (H0:Hid (Calls prog 33 #[.string ⟨#[102,117,110,32,120,32,45,62,32,120]⟩,.string ⟨#[97,32,45,62,32,97]⟩] w fun e w'=>e= .returned (.bool true)/\Kept w w'))
 (H1:Hid (∀W,Kept w W->Calls prog 14 #[.string src] W fun e w'=>e= .returned (.tuple #[.string shw,Jaa wS lS ⟨#[]⟩])/\Kept W w'))
 (H2:Hid (∀W,Kept w W->Calls prog 35 #[.string src] W fun e w'=>e= .returned (.tuple #[.string tT,Jaa wT lT sT])/\Kept W w'))
 (H3:Hid (∀W,Kept w W->Calls prog 35 #[.string shw] W fun e w'=>e= .returned (.tuple #[.string tU,Jaa wU lU sU])/\Kept W w'))
 (H4:Hid (∀W,Kept w W->Calls prog 14 #[.string shw] W fun e w'=>e= .returned (.tuple #[.string tR,Jaa wR lR ⟨#[]⟩])/\Kept W w'))
 (H5:Hid (∀W,Kept w W->Calls prog 35 #[.string (⟨#[108,101,116,32,122,32,61,32]⟩++shw++⟨#[32,105,110,32,122]⟩)] W fun e w'=>e= .returned (.tuple #[.string tL,Jaa wL lL sL])/\Kept W w'))
 (H6:Hid (∀W,Kept w W->Calls prog 35 #[.string (⟨#[40,102,117,110,32,122,32,45,62,32,122,41,32,40]⟩++shw++⟨#[41]⟩)] W fun e w'=>e= .returned (.tuple #[.string tI,Jaa wI lI sI])/\Kept W w'))
 (I:Hid (∀W,Kept w W->Calls prog 35 #[.string (⟨#[108,101,116,32,122,32,61,32]⟩++shw++⟨#[32,105,110,32,40,122,44,32,122,41]⟩)] W fun e w'=>e= .returned (.tuple #[.string tP,Jaa wP lP sP])/\Kept W w'))
 (F0:Hid (wS≠0->wT≠0/\shw=⟨#[]⟩/\tT=⟨#[]⟩))
 (F1:Hid (wS=0->shw.size<=300->tU=tT/\(wU=0<->wT=0)/\wR=0/\tR=shw))
 (F2:Hid (wS=0->shw.size+20<=300->wL≠3->wI≠3->wT≠0->wL≠0/\wI≠0/\tL=⟨#[]⟩/\tI=⟨#[]⟩))
 (F3:Hid (wS=0->shw.size+20<=300->wL≠3->wI≠3->wT=0->tL=tT/\tI=tT/\(wP≠0->wP=8)/\(wP=0->tP.size<=300->∃x1 x2:BA,
   Hid (∀W,Kept w W->Calls prog 21 #[.string ⟨#[40,108,44,32,114,41]⟩,.string tP] W fun e w'=>∃la lc E tc,e= .returned (.tuple #[.slice la 2 lc,.slice (some ⟨E,0,none⟩) 2 tc,.bool false,Jaa 0 0 ⟨#[]⟩])/\Kept W w'/\w'.cell? ⟨E,0,none⟩=some (.string x1)/\w'.cell? ⟨E,1,none⟩=some (.string x2))/\
   Hid (∀W,Kept w W->Calls prog 18 #[.string x1] W fun e w'=>e= .returned (.tuple #[.string tT,Jaa 0 0 ⟨#[]⟩])/\Kept W w')/\
   Hid (∀W,Kept w W->Calls prog 18 #[.string x2] W fun e w'=>e= .returned (.tuple #[.string tT,Jaa 0 0 ⟨#[]⟩])/\Kept W w')))):
  Calls prog 13 #[.string src] w fun e w'=>e= .returned (.bool true)/\Kept w w':=by
 go_enter func13,ntmps13
 go_wp2_with fail
 refine Vac H0.out ?_
 rintro e w1 ⟨rfl,aJ⟩;clear H0
 go_wp2_with fail
 refine Vac (H1.out w1 aJ) ?_
 rintro e w2 ⟨rfl,aT⟩;unfold Jaa;have aM:=aJ.trans aT;clear H1 aJ aT;have HF:Hid (fQ (w2.alloc (.cells #[.int .i64 wS,.int .i64 lS,.string ⟨#[]⟩,.int .i64 0,.int .i64 0] 23)) w2.heap.size wS lS ⟨#[]⟩):=fQ.new w2 wS lS ⟨#[]⟩;have HK:Hid (Kept w (w2.alloc (.cells #[.int .i64 wS,.int .i64 lS,.string ⟨#[]⟩,.int .i64 0,.int .i64 0] 23))):=aM.trans (Vet w2 (Jgi wS lS ⟨#[]⟩));have bc:=aM.size;clear aM
 go_wp2_with fail
 generalize w2.alloc (.cells #[.int .i64 wS,.int .i64 lS,.string ⟨#[]⟩,.int .i64 0,.int .i64 0] 23)=w3 at*;generalize w2.heap.size=fb at*;refine Vac (H2.out w3 HK.out) ?_
 rintro e L ⟨rfl,az⟩;unfold Jaa;clear H2;have d:Hid (Kept L (L.alloc (.cells #[.int .i64 wT,.int .i64 lT,.string sT,.int .i64 0,.int .i64 0] 23))):=Vet L (Jgi wT lT sT);have HE:Hid (fQ (L.alloc (.cells #[.int .i64 wT,.int .i64 lT,.string sT,.int .i64 0,.int .i64 0] 23)) L.heap.size wT lT sT):=fQ.new L wT lT sT;have hf:=(HF.out.kept (az.trans d.out)).at0;have al:Hid _:=(HK.out.trans az).trans d.out;have bh:=(HK.out.trans az).size;clear HF HK az d
 by_cases ao:wS=0
 .have G1:Hid _:=F1.out ao;have O:Hid _:=F2.out ao;have M:Hid _:=F3.out ao;subst ao;clear F0 F1 F2 F3
  go_wp2_with fail
  generalize L.alloc (.cells #[.int .i64 wT,.int .i64 lT,.string sT,.int .i64 0,.int .i64 0] 23)=w5 at*;generalize L.heap.size=Z at*;clear hf;refine Vac (H3.out w5 al.out) ?_
  rintro e G ⟨rfl,ak⟩;unfold Jaa;clear H3;have d:Hid (Kept G (G.alloc (.cells #[.int .i64 wU,.int .i64 lU,.string sU,.int .i64 0,.int .i64 0] 23))):=Vet G (Jgi wU lU sU);have aN:Hid (fQ (G.alloc (.cells #[.int .i64 wU,.int .i64 lU,.string sU,.int .i64 0,.int .i64 0] 23)) G.heap.size wU lU sU):=fQ.new G wU lU sU;have aZ:Hid (fQ (G.alloc (.cells #[.int .i64 wU,.int .i64 lU,.string sU,.int .i64 0,.int .i64 0] 23)) Z wT lT sT):=HE.out.kept (ak.trans d.out);have bm:Z<G.heap.size:=(HE.out.kept ak).lt;have ay:Hid _:=(al.out.trans ak).trans d.out;have a4:=(al.out.trans ak).size;clear HE al ak d
  go_wp2_with fail
  generalize G.alloc (.cells #[.int .i64 wU,.int .i64 lU,.string sU,.int .i64 0,.int .i64 0] 23)=w7 at*;generalize G.heap.size=gb at*;refine Vac (H4.out w7 ay.out) ?_
  rintro e D ⟨rfl,af⟩;unfold Jaa;clear H4;have d:Hid (Kept D (D.alloc (.cells #[.int .i64 wR,.int .i64 lR,.string ⟨#[]⟩,.int .i64 0,.int .i64 0] 23))):=Vet D (Jgi wR lR ⟨#[]⟩);have HH:Hid (fQ (D.alloc (.cells #[.int .i64 wR,.int .i64 lR,.string ⟨#[]⟩,.int .i64 0,.int .i64 0] 23)) D.heap.size wR lR ⟨#[]⟩):=fQ.new D wR lR ⟨#[]⟩;have aB:Hid (fQ (D.alloc (.cells #[.int .i64 wR,.int .i64 lR,.string ⟨#[]⟩,.int .i64 0,.int .i64 0] 23)) Z wT lT sT):=aZ.out.kept (af.trans d.out);have aL:Hid (fQ (D.alloc (.cells #[.int .i64 wR,.int .i64 lR,.string ⟨#[]⟩,.int .i64 0,.int .i64 0] 23)) gb wU lU sU):=aN.out.kept (af.trans d.out);have bf:gb<D.heap.size:=(aN.out.kept af).lt;have aw:Hid _:=(ay.out.trans af).trans d.out;have a9:=(ay.out.trans af).size;clear aZ aN ay af d
  by_cases be:300<shw.size
  .go_wp2
   go_ret
   exact⟨rfl,aw.out⟩
  .obtain⟨q1,q2,q3,q4⟩:=G1.out (by omega);have ce:=aB.out.at0;have cg:=aL.out.at0;have ch:=HH.out.at0;clear G1;subst q1 q3 q4
   have q5:(wT==0)=(wU==0):=by
    rw[Vb7,Vbs,Vbs];exact q2.symm
   clear q2
   go_wp2_with fail
   generalize D.alloc (.cells #[.int .i64 0,.int .i64 lR,.string ⟨#[]⟩,.int .i64 0,.int .i64 0] 23)=w9 at*;generalize D.heap.size=hb at*;clear ce cg ch q5;refine Vac (H5.out w9 aw.out) ?_
   rintro e a7 ⟨rfl,aj⟩;unfold Jaa;clear H5;have aO:=aL.out.kept aj;obtain⟨c0,c1,c2,c3,c4,fz⟩:=aO.cells;obtain⟨U,ae⟩:∃U,su5 a7 gb (.int .i64 wL) (.int .i64 lL) (.string sL) (.int .i64 0) (.int .i64 0)=U:=⟨_,rfl⟩
   have a1:Hid (fQ U Z wT lT sT):=by rw[<-ae];exact(JeR _ _ _ _ _ _ _ Z (by omega)).trans (aB.out.kept aj)
   have aF:Hid (fQ U gb wL lL sL):=by rw[<-ae];exact JhL _ _ _ _ _ _ _ _ _ _ _ _ _ aO
   have aV:Hid (fQ U hb 0 lR ⟨#[]⟩):=by rw[<-ae];exact(JeR _ _ _ _ _ _ _ hb (by omega)).trans (HH.out.kept aj)
   have aa:Hid (Kept w U):=by rw[<-ae];exact JfT (aw.out.trans aj) a4
   have cg:=aF.out.at0;clear aB aL HH aw aj aO;unfold su5 at ae
   by_cases aS:tR.size+20<=300
   .by_cases aE:wL=1
    .clear O M H6 I;subst aE
     go_wp2_with fail
     go_ret
     exact⟨rfl,aa.out⟩
    .by_cases au:wL=3
     .clear O M H6 I;subst au
      go_wp2_with fail
      go_ret
      exact⟨rfl,aa.out⟩
     .have b1:(wL==1)=false:=by simpa using aE
      have b3:(wL==3)=false:=by simpa using au
      go_wp2_with fail
      clear ae c0 c1 c2 c3 c4 fz cg aE b1 b3;refine Vac (H6.out U aa.out) ?_
      rintro e ba ⟨rfl,an⟩;unfold Jaa;clear H6;have aI:=aV.out.kept an;obtain⟨c0,c1,c2,c3,c4,fz⟩:=aI.cells;obtain⟨V,ag⟩:∃V,su5 ba hb (.int .i64 wI) (.int .i64 lI) (.string sI) (.int .i64 0) (.int .i64 0)=V:=⟨_,rfl⟩
      have aU:Hid (fQ V Z wT lT sT):=by rw[<-ag];exact(JeR _ _ _ _ _ _ _ Z (by omega)).trans (a1.out.kept an)
      have aW:Hid (fQ V gb wL lL sL):=by rw[<-ag];exact(JeR _ _ _ _ _ _ _ gb (by omega)).trans (aF.out.kept an)
      have aX:Hid (fQ V hb wI lI sI):=by rw[<-ag];exact JhL _ _ _ _ _ _ _ _ _ _ _ _ _ aI
      have ah:Hid (Kept w V):=by rw[<-ag];exact JfT (aa.out.trans an) a9
      have ce:=aU.out.at0;have cg:=aW.out.at0;have ch:=aX.out.at0;clear a1 aF aV aa an aI;unfold su5 at ag
      by_cases av:wI=3
      .clear O M I;subst av
       go_wp2_with fail
       go_ret
       exact⟨rfl,ah.out⟩
      .by_cases aQ:wI=8
       .clear O M I;subst aQ
        go_wp2_with fail
        go_ret
        exact⟨rfl,ah.out⟩
       .have b3:(wI==3)=false:=by simpa using av
        have b8:(wI==8)=false:=by simpa using aQ
        by_cases aD:wT=0
        .obtain⟨p1,p2,p3,p4⟩:=M.out aS au av aD;have P3:Hid _:=p3;have P4:Hid _:=p4;clear O M p3 p4;subst aD;subst p1;subst p2
         go_wp2_with fail
         clear ag c0 c1 c2 c3 c4 fz ce cg ch b3 b8 aU aW aX;refine Vac (I.out V ah.out) ?_
         rintro e Y ⟨rfl,aR⟩;unfold Jaa;clear I;have d:Hid (Kept Y (Y.alloc (.cells #[.int .i64 wP,.int .i64 lP,.string sP,.int .i64 0,.int .i64 0] 23))):=Vet Y (Jgi wP lP sP);have ci:(Y.alloc (.cells #[.int .i64 wP,.int .i64 lP,.string sP,.int .i64 0,.int .i64 0] 23)).cell? ⟨Y.heap.size,0,none⟩=some (.int .i64 wP):=(fQ.new Y wP lP sP).at0;have ai:Hid _:=(ah.out.trans aR).trans d.out;clear ah aR d
         by_cases ax:wP=0
         .have P5:Hid _:=P4.out ax;clear P3 P4;subst ax
          by_cases bi:300<tP.size
          .clear P5
           go_wp2_with fail
           go_ret
           exact⟨rfl,ai.out⟩
          .obtain⟨x1,x2,I1,C1,C2⟩:=P5.out (by omega);clear P5
           go_wp2_with fail
           generalize Y.alloc (.cells #[.int .i64 0,.int .i64 lP,.string sP,.int .i64 0,.int .i64 0] 23)=a5 at*;refine Vac (I1.out a5 ai.out) ?_
           rintro e J ⟨la,lc,E,tc,rfl,aH,y1,y2⟩;unfold Jaa;have d:Hid (Kept J (J.alloc (.cells #[.int .i64 0,.int .i64 0,.string ⟨#[]⟩,.int .i64 0,.int .i64 0] 23))):=Vet J (Jgi 0 0 ⟨#[]⟩);have HQ:Hid (fQ (J.alloc (.cells #[.int .i64 0,.int .i64 0,.string ⟨#[]⟩,.int .i64 0,.int .i64 0] 23)) J.heap.size 0 0 ⟨#[]⟩):=fQ.new J 0 0 ⟨#[]⟩;have ck:=HQ.out.at0;have z1:=d.out.cell y1;have z2:=d.out.cell y2;have bk:E<J.heap.size:=Vaw _ _ y1;have aA:Hid _:=(ai.out.trans aH).trans d.out;have a3:=(ai.out.trans aH).size;clear I1 ci ai aH d y1 y2
           go_wp2_with fail
           generalize J.alloc (.cells #[.int .i64 0,.int .i64 0,.string ⟨#[]⟩,.int .i64 0,.int .i64 0] 23)=a8 at*;generalize J.heap.size=kb at*;refine Vac (C1.out a8 aA.out) ?_
           rintro e a2 ⟨rfl,aq⟩;unfold Jaa;clear C1 ck;have aC:=HQ.out.kept aq;have y2:=aq.cell z2;obtain⟨c0,c1,c2,c3,c4,fz⟩:=aC.cells;obtain⟨T,am⟩:∃T,su5 a2 kb (.int .i64 0) (.int .i64 0) (.string ⟨#[]⟩) (.int .i64 0) (.int .i64 0)=T:=⟨_,rfl⟩
           have aY:Hid (fQ T kb 0 0 ⟨#[]⟩):=by rw[<-am];exact JhL _ _ _ _ _ _ _ _ _ _ _ _ _ aC
           have aK:Hid (Kept w T):=by rw[<-am];exact JfT (aA.out.trans aq) a3
           have a0:T.heap[E]? =a2.heap[E]? :=by rw[<-am];exact JeR _ _ _ _ _ _ _ E (by omega)
           have z3:T.cell? ⟨E,1,none⟩=some (.string x2):=(VaH (a:=(⟨E,1,none⟩:Addr)) a0).trans y2;clear a0;clear aC y2 z1 z2 aA aq HQ;unfold su5 at am
           go_wp2_with fail
           clear am c0 c1 c2 c3 c4 fz z3;refine Vac (C2.out T aK.out) ?_
           rintro e ac ⟨rfl,aP⟩;unfold Jaa;clear C2;have aG:Hid (Kept ac (ac.alloc (.cells #[.int .i64 0,.int .i64 0,.string ⟨#[]⟩,.int .i64 0,.int .i64 0] 23))):=Vet ac (Jgi 0 0 ⟨#[]⟩);have cm:(ac.alloc (.cells #[.int .i64 0,.int .i64 0,.string ⟨#[]⟩,.int .i64 0,.int .i64 0] 23)).cell? ⟨ac.heap.size,0,none⟩=some (.int .i64 0):=(fQ.new ac 0 0 ⟨#[]⟩).at0;have ck:=((aY.out.kept aP).kept aG.out).at0;have a6:Hid _:=(aK.out.trans aP).trans aG.out;clear aY aK aP aG
           go_wp2_with fail
           go_ret
           exact⟨rfl,a6.out⟩
         .have p5:=P3.out ax;clear P3 P4 ax;subst p5
          go_wp2_with fail
          go_ret
          exact⟨rfl,ai.out⟩
        .obtain⟨p1,p2,p3,p4⟩:=O.out aS au av aD;have bj:(wL !=0)=true:=by simpa using p1
         have bb:(wI !=0)=true:=by simpa using p2
         clear O M I;subst p3;subst p4
         go_wp2_with fail
         go_ret
         exact⟨rfl,ah.out⟩
   .clear O M H6 I
    go_wp2_with fail
    go_ret
    exact⟨rfl,aa.out⟩
 .obtain⟨q1,q2,q3⟩:=F0.out ao;have bg:(wT !=0)=true:=by simpa using q1
  have ce:=HE.out.at0;clear F0 F1 F2 F3 HE H3 H4 H5 H6 I;subst q2 q3
  go_wp2
  go_ret
  exact⟨rfl,al.out⟩
end
end Go.Proofs.YtleenphlgbklmaaGreatDoor
