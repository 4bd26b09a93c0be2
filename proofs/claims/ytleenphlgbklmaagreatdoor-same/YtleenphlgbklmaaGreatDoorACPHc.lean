import Derived.Test.YtleenphlgbklmaaGreatDoorACPHb
set_option linter.unusedVariables false
set_option linter.unusedSimpArgs false
set_option maxRecDepth 100000
set_option maxHeartbeats 8000000
open List renaming replicate → Vet
namespace Go.Proofs.YtleenphlgbklmaaGreatDoor
open Go.RowKit
open Tryz
theorem JjX(g:X->Option (Option (Nat×BA))):∀(xs:List X),xs.foldl (fun r x=>sqF r (g x)) none=none
 | []=>rfl
 |x::xs=>by simpa[sqF]using JjX g xs
theorem JjW(g:X->Option (Option (Nat×BA)))(e:Nat×BA):∀(xs:List X),xs.foldl (fun r x=>sqF r (g x)) (some (some e))=some (some e)
 | []=>rfl
 |x::xs=>by simpa[sqF]using JjW g e xs
variable {x:X}{xs:List X}{r:Option (Nat×BA)}
theorem Jgm(g:X->Option (Option (Nat×BA)))(h:(x::xs).foldl (fun r x=>sqF r (g x)) (some none)=some r):∃r1,g x=some r1/\((r1=r/\r≠none)\/(r1=none/\xs.foldl (fun r x=>sqF r (g x)) (some none)=some r)):=by
 have e:∀b,sqF (some none) b=b:=fun _=>rfl
 rw[VbO,e]at h
 cases d:g x with
 |none=>
  rw[d,JjX g]at h
  cases h
 |some r1=>
  refine⟨r1,rfl,?_⟩
  rw[d]at h
  cases r1 with
  |none=>exact .inr ⟨rfl,h⟩
  |some e=>
   rw[JjW g e]at h;simp only[Vaa]at h;exact .inl ⟨h,by rw[<-h];simp⟩
structure CGI(w:World)(ad:List Nat)(own:List Bd)(gv:Gv)(gm:Nat)(wr:World)(q:Option Addr):Prop where
 kept:Kept w wr
 blk:wr.heap[w.heap.size]? =some (.cells #[.pointer q,.map (some gm)] 244 (0,0))
 ci:CI wr ad own gv q gm
variable {w wr w2:World}{ad:List Nat}{own:List Bd}{gv:Gv}{gm:Nat}{q:Option Addr}
theorem CGI.step(h:CGI w ad own gv gm wr q)(k:Kept wr w2):CGI w ad own gv gm w2 q:=⟨h.kept.trans k,k.blk h.blk,h.ci.kept k⟩
variable {f:X->List Bd->Option (Option (Nat×BA))}{names:List BA}{vs:List X}{y:X}{p:Option Addr}{eb ng ncap gx cap:Nat}{dpt:Int}{ps:List Value}
theorem Joz(hf:SCk gv f)(h:grpC f names (vs++ [y]) own=some r){q:Value}
 (hb:w.heap[eb]? =some (.cells #[.int .i64 dpt,.slice (some ⟨ng,0,none⟩) names.length ncap,.slice (some ⟨gx,0,none⟩) ps.length cap,q] 341 (0,0)))(hl:ps.length=vs.length)(aF:names.length=vs.length){af aw:Array Value}(hx:w.heap[gx]? =some (.cells af 130 (0,0)))(ax:∀j (h:j<ps.length),af[j]? =some ps[j])(Y:w.heap[ng]? =some (.cells aw 9 (0,0)))(aB:∀j (h:j<names.length),aw[j]? =some (.string names[j]))(T:∀j (h:j<vs.length) (h2:j<ps.length),PX w (fun _=>True) vs[j] ps[j])(hy:PX w (fun _=>True) y q)(hT:CI w ad own gv p gm):
  Calls prog 167 #[.pointer (some ⟨eb,0,none⟩),.agg #[.pointer p,.map (some gm)]] w (ChO w r):=by
 have av:names.length<=1000000:=by
  by_cases hc:names.length<=1000000
  .exact hc
  .simp[grpC,hc]at h
 simp only[grpC,av,Va0]at h;have hm:ps.length<=1000000:=by omega
 generalize hG:grpF names (Vet names.length .int) own=G at h;obtain⟨Ty,uy,rfl⟩:=hy.iface;obtain⟨hF,aq⟩:=JbA w eb p gm hb;have ak:(w.alloc (.cells #[.pointer p,.map (some gm)] 244)).drew.heap.size=w.heap.size+1:=by simp
 have am:=run_make_row' (P:=prog) 345 156 .nilIface 16 VdV IaS rfl .i64 .i64 names.length (by omega) (by omega) (w.alloc (.cells #[.pointer p,.map (some gm)] 244)).drew;rw[ak]at am;have an:=Vag (w.alloc (.cells #[.pointer p,.map (some gm)] 244)).drew (.cells (madeCells #[.nilIface] names.length) 156);rw[ak,Jd7]at an;rw[Jd7]at am;generalize hW:w.alloc (.cells #[.pointer p,.map (some gm)] 244)=ae at*;have al:Kept ae (ae.drew.alloc (.cells (Vet names.length Value.nilIface).toArray 156)):=(Kept.drew ae).trans (Kept.alloc _ _);generalize ae.drew.alloc (.cells (Vet names.length Value.nilIface).toArray 156)=aE at*;have ac:=hF.kept al;have ai:=aq.trans al
 have M:Hid (Calls prog 200 #[.agg #[.pointer p,.map (some gm)],.slice (some ⟨ng,0,none⟩) names.length ncap,.slice (some ⟨w.heap.size+1,0,none⟩) names.length names.length] aE fun e w2=>∃d,e= .returned (.agg #[.pointer d,.map (some gm)])/\w2.cell? ⟨w.heap.size,0,none⟩=some (.pointer p)/\w2.cell? ⟨w.heap.size,1,none⟩=some (.map (some gm))/\w2.cell? ⟨eb,1,none⟩=some (.slice (some ⟨ng,0,none⟩) names.length ncap)/\w2.frozen? ⟨w.heap.size,0,none⟩=false/\w2.frozen? ⟨w.heap.size,1,none⟩=false/\
   Hid (CGI w ad G gv gm ((w2.setCell ⟨w.heap.size,0,none⟩ (.pointer d)).setCell ⟨w.heap.size,1,none⟩ (.map (some gm))) d)):=by
  refine(JeW (R:=fun _ _=>True) (ts:=Vet names.length .int) (vals:=Vet names.length Value.nilIface) (own:=own) (by simp) (by simp) av (fun j hj=>JbJ (ai.blk Y) (aB j hj)) (fun j hj=>JbJ an (by simp only[List.length_replicate]at hj;simp[hj])) (fun v hv=> .inl (List.eq_of_mem_replicate hv)) (fun _ _ _=>trivial) (hT.kept ai).ch).mono ?_
  rintro e w2 ⟨d,rfl,au,ao⟩;have U:=ac.kept ao;refine⟨d,rfl,U.c.1,U.c.2,U.x (i:=1) rfl,by simp[World.frozen?,U.sc],by simp[World.frozen?,U.sc],?_⟩
  rw[hG]at au;have aA:=ai.trans ao;refine⟨Jds aA (Vau _) _ _,JhG U.sc _ _,JhH U.sc au _ _,?_⟩
  exact hT.gm.kt (Kt.of_kept (ad:=ad) (S:=fun _=>False) (Jds aA (Vau _) (.pointer d) (.map (some gm)))) id
 obtain⟨c0,c1⟩:=hF.c;have c2:=hF.x (i:=1) (v:= .slice (some ⟨ng,0,none⟩) names.length ncap) rfl;obtain⟨d0,d1⟩:=ac.c;have d2:=ac.x (i:=1) (v:= .slice (some ⟨ng,0,none⟩) names.length ncap) rfl;have HH:Hid _:=h;have HB:Hid _:=hb;have HX:Hid (w.heap[gx]? =some (.cells af 130 (0,0))/\∀j (h:j<ps.length),af[j]? =some ps[j]):=⟨hx,ax⟩
 have HP:Hid _:=T;have HY:Hid _:=hy;have ah:Hid _:=hf;have HL:Hid _:=hl;clear h hb hx ax T hy hf hl hF ac al ai aq hT Y aB an hG aF ak
 go_enter func167,ntmps167
 go_wp2_with fail
 go_cut [17] (fun v wx=>∃d,v= .agg #[.pointer d,.map (some gm)]/\Hid (CGI w ad G gv gm wx d))
 case first=>
  go_region_with (go_at_call 200;refine Vac M.out ?_;rintro e w2 ⟨d,rfl,e0,e1,e2,e3,e4,W⟩;clear M)
  all_goals
   go_wp2_with fail
   go_meet
   case rel=>exact⟨d,rfl,W⟩
 case rest=>
  obtain⟨d,rfl,W⟩:=hcut;clear M;have c3:wc.cell? ⟨eb,2,none⟩=some (.slice (some ⟨gx,0,none⟩) ps.length cap):=JbJ (W.out.kept.blk HB.out) rfl;clear c0 c1 c2 d0 d1 d2 am
  go_wp2_with fail
  clear c3
  go_loopw [23] (fun i wr=>∃j:Nat,j<=ps.length/\i= .int .i64 j/\Hid (CGI w ad G gv gm wr d/\((vs++ [y]).drop j).foldl (fun r x=>sqF r (f x G)) (some none)=some r)) (fun i _=>ps.length-(intOf i).toNat)
  case atStart=>exact⟨0,VaN _,rfl,W.out,HH.out⟩
  case round=>
   obtain⟨j,hj,rfl,HJ⟩:=hrel;obtain⟨D,V⟩:=HJ.out;have c0:wr.cell? ⟨w.heap.size,0,none⟩=some (.pointer d):=JbJ D.blk rfl;have c1:wr.cell? ⟨w.heap.size,1,none⟩=some (.map (some gm)):=JbJ D.blk rfl
   by_cases ag:j<ps.length
   .have aC:j<vs.length:=by rw[<-HL.out];exact ag
    have aa:(vs++ [y]).drop j=vs[j]::(vs++ [y]).drop (j+1):=by
     rw[Vbl (by simp;omega)];congr 1
     exact Vc0 aC
    rw[aa]at V;obtain⟨r1,Z,O⟩:=Jgm (fun x=>f x G) V;have cx:wr.cell? ⟨gx,j,none⟩=some ps[j]:=JbJ (D.kept.blk HX.out.1) (HX.out.2 j ag);have T:=HP.out j aC ag;obtain⟨Tx,ux,ay⟩:=T.iface;rw[ay]at cx T
    have M:Hid (Calls prog 126 #[.iface Tx ux,.agg #[.pointer d,.map (some gm)]] wr fun e E=>(∃b,e=thrown (.iface 135 (.pointer (some ⟨b,0,none⟩)))/\ChO w r (thrown (.iface 135 (.pointer (some ⟨b,0,none⟩)))) E)\/(e= .returned (.tuple #[])/\Hid (CGI w ad G gv gm E d/\((vs++ [y]).drop (j+1)).foldl (fun r x=>sqF r (f x G)) (some none)=some r))):=by
     refine(ah.out _ G r1 Z wr ad _ d gm (T.keepT (XKeep.kept D.kept)) D.ci).mono ?_
     intro e E I
     rcases I.split with⟨q,b,L,rfl,I⟩|⟨L,rfl,hk⟩
     .rcases O with⟨rfl,_⟩|⟨J,_⟩
      .exact .inl ⟨b,rfl,I.pre D.kept⟩
      .rw[J]at L;cases L
     .rcases O with⟨J,Y⟩|⟨_,J⟩
      .exact absurd (J.symm.trans L) Y
      .exact .inr ⟨rfl,D.step hk,J⟩
    clear D V aa Z O T ay HJ HH HB HX HP HY ah HL W
    go_wp2_with fail
    refine Vac M.out ?_
    rintro e E (⟨b,rfl,I⟩|⟨rfl,HN⟩)
    .go_wp2
     exact⟨rfl,I⟩
    .clear M
     go_wp2
     go_roundw
     case measure=>simp[intOf];omega
     case rel=>exact⟨j+1,ag,by go_num,HN⟩
   .have az:j=vs.length:=by rw[<-HL.out];omega
    have aa:(vs++ [y]).drop j= [y]:=by rw[az];simp
    rw[aa]at V;obtain⟨r1,Z,O⟩:=Jgm (fun x=>f x G) V;have c3:wr.cell? ⟨eb,3,none⟩=some (.iface Ty uy):=JbJ (D.kept.blk HB.out) rfl
    have M:Hid (Calls prog 126 #[.iface Ty uy,.agg #[.pointer d,.map (some gm)]] wr.drew fun e E=>(∃b,e=thrown (.iface 135 (.pointer (some ⟨b,0,none⟩)))/\ChO w r (thrown (.iface 135 (.pointer (some ⟨b,0,none⟩)))) E)\/(e= .returned (.tuple #[])/\E.cell? ⟨w.heap.size,0,none⟩=some (.pointer d)/\E.cell? ⟨w.heap.size,1,none⟩=some (.map (some gm))/\E.cell? ⟨eb,3,none⟩=some (.iface Ty uy)/\Hid (ChO w r (.returned (.tuple #[])) E))):=by
     have D:=D.step (Kept.drew wr);refine(ah.out _ G r1 Z wr.drew ad _ d gm (PX.keepT (XKeep.kept D.kept) HY.out) D.ci).mono ?_
     intro e E I
     rcases I.split with⟨q,b,L,rfl,I⟩|⟨L,rfl,hk⟩
     .rcases O with⟨rfl,_⟩|⟨J,_⟩
      .exact .inl ⟨b,rfl,I.pre D.kept⟩
      .rw[J]at L;cases L
     .rcases O with⟨J,Y⟩|⟨_,J⟩
      .exact absurd (J.symm.trans L) Y
      .have aj:=D.step hk;have aD:none=r:=by simpa using J
       exact .inr ⟨rfl,JbJ aj.blk rfl,JbJ aj.blk rfl,JbJ (aj.kept.blk HB.out) rfl,aj.kept,by rw[<-aD]⟩
    clear D V aa Z O az HJ HH HB HX HP HY ah HL W
    go_wp2_with fail
    have aG:wr.drew.cell? ⟨w.heap.size,0,none⟩=some (.pointer d):=c0;have aH:wr.drew.cell? ⟨w.heap.size,1,none⟩=some (.map (some gm)):=c1;have aI:wr.drew.cell? ⟨eb,3,none⟩=some (.iface Ty uy):=c3
    go_region_held2 (fun w'=>w'.cell? ⟨w.heap.size,0,none⟩=some (.pointer d)/\w'.cell? ⟨w.heap.size,1,none⟩=some (.map (some gm))/\w'.cell? ⟨eb,3,none⟩=some (.iface Ty uy)) (go_keep) (first|(go_at_call 126;refine Vac M.out ?_;rintro e E (⟨a,rfl,I⟩|⟨rfl,d0,d1,d2,HR⟩);exact⟨rfl,I⟩;clear M))
    all_goals
     go_wp2
     exact Vbi (Va3 results167 _ _ _) rfl HR.out
theorem Jrv(gv:Gv)(f:X->List Bd->Option (Option (Nat×BA)))(hf:SCk gv f):SCg gv f:=by
 intro names kids loc own r h w ad eb p gm J U
 obtain⟨vs,y,rfl⟩:∃vs y,kids=vs++ [y]:=by
  cases J with
  |rc ak vs y ah b nv vv q ps _ _ _ _ _ _ _ _ _ _ _ _=>exact⟨vs,y,rfl⟩
 obtain⟨b,nv,vv,q,ps,L,hv,E,hn,V,I,G,ae,hy⟩:=Joh J rfl;simp only[Va7,VbX,Vaa,Addr.mk.injEq,VbG,Vbo]at hv;subst hv;have aa:w.ownsRow 0 9 1 nv (names.map Value.string).length (names.map Value.string):=by rw[Vbe];exact hn
 obtain⟨ng,ncap,aj,rfl,O,ac⟩:=JfO aa (by simpa using L);have af:ps≠ []:=fun z=>L (Vc3.1 (by rw[G,<-I,z];rfl))
 obtain⟨gx,cap,ai,rfl,Y,M⟩:=JfO V af;rw[Vbe]at E;obtain⟨hF,T⟩:=JbA w eb p gm E;have q0:=fun W=>Ic4 (.pointer (some ⟨eb,0,none⟩)) W
 have q1:=fun W=>Ic1 (.pointer (some ⟨eb,0,none⟩)) W
 have q2:=fun W=>Ic2 (.pointer (some ⟨eb,0,none⟩)) W
 have q3:=fun W=>Ic3 (.pointer (some ⟨eb,0,none⟩)) W
 have q4:=fun W=>Ic7 (.pointer (some ⟨eb,0,none⟩)) W
 have Z:Hid (Calls prog 167 #[.pointer (some ⟨eb,0,none⟩),.agg #[.pointer p,.map (some gm)]] (w.alloc (.cells #[.pointer p,.map (some gm)] 244)) fun e w2=>(∃b,e=thrown (.iface 135 (.pointer (some ⟨b,0,none⟩)))/\ChO w r (thrown (.iface 135 (.pointer (some ⟨b,0,none⟩)))) w2)\/(e= .returned (.tuple #[])/\w2.cell? ⟨w.heap.size,0,none⟩=some (.pointer p)/\w2.cell? ⟨w.heap.size,1,none⟩=some (.map (some gm))/\Hid (ChO w r (.returned (.tuple #[])) w2))):=by
  have d:=T;refine(Joz hf h (d.blk E) I G (d.blk Y) M (d.blk O) (fun j hj=>by have:=ac j (by simpa using hj);simpa using this) (fun j a c=>(ae j _ _ (Vav a) (Vav c)).keepT (XKeep.kept d)) (hy.keepT (XKeep.kept d)) (U.kept d)).mono ?_
  intro e w2 D
  rcases D.split with⟨q,b,rfl,rfl,D⟩|⟨rfl,rfl,hk⟩
  .exact .inl ⟨b,rfl,D.pre d⟩
  .have ag:=hF.kept hk;exact .inr ⟨rfl,ag.c.1,ag.c.2,d.trans hk,rfl⟩
 obtain⟨c0,c1⟩:=hF.c;clear h J U hf E hn V I G ae hy aa O ac af Y M hF T L
 go_enter Vcf,Vb4
 go_wp2_with fail
 clear q0 q1 q2 q3 q4;generalize w.alloc (.cells #[.pointer p,.map (some gm)] 244)=W at*;refine Vac Z.out ?_
 rintro e w2 (⟨a,rfl,D⟩|⟨rfl,d0,d1,HR⟩)
 .go_wp2
  exact⟨rfl,D⟩
 .clear Z
  go_wp2
  exact Vbi (Va3 Vb0 _ _ _) rfl HR.out
end Go.Proofs.YtleenphlgbklmaaGreatDoor
