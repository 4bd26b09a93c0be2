import Derived.Test.YtleenphlgbklmaaGreatDoorACPGw
set_option linter.unusedVariables false
set_option linter.unusedSimpArgs false
set_option maxRecDepth 100000
set_option maxHeartbeats 8000000
namespace Go.Proofs.YtleenphlgbklmaaGreatDoor
open Go.RowKit
open World renaming cell? → Vet
open Tryz
section
variable {ω:Type}{A:Nat->Addr}{B:Nat}{K:World->ω->Prop}{gv:Gv}{fuel:Nat}{wv:Value}
variable {vs:List X}{own own2:List Bd}{σ:St}{w:World}{ad:List Nat}{p p2:Option Addr}{gm eb gx cap:Nat}{nv q:Value}{dpt:Int}{ps:List Value}
theorem Jm0(hK:KOk K)(hR:KRw K){f:X->List Bd->St->ω->Option (Oc (TR×St)×ω)}(hf:STf A B K gv fuel wv f){o:ω}{res:Oc (List TR×St)×ω}(h:rnd1 (fun x=>f x own2) vs own σ o=some res)
 (hb:w.heap[eb]? =some (.cells #[.int .i64 dpt,nv,.slice (some ⟨gx,0,none⟩) ps.length cap,q] 341 (0,0)))(hl:ps.length=vs.length)(hm:ps.length<=1000000){ak:Array Value}(hx:w.heap[gx]? =some (.cells ak 130 (0,0)))(ay:∀j (h:j<ps.length),ak[j]? =some ps[j])(Y:∀j (h:j<vs.length) (D:j<ps.length),PX w (fun _=>True) vs[j] ps[j])(hT:TI A B K w ad σ own gv p gm o)(ai:CH w (RV ad) own2 (.pointer p2)):
  Calls prog 236 #[.agg #[.int .i64 fuel,wv],.pointer (some ⟨eb,0,none⟩),.agg #[.pointer p2,.map (some gm)],.agg #[.pointer p,.map (some gm)]] w fun e w'=>RnO A B K ad w e w' res.2 res.1:=by
 have k1:Kept w (w.alloc (.cells #[.int .i64 fuel,wv] 172)):=Kept.alloc _ _;have k2:=Kept.alloc (w.alloc (.cells #[.int .i64 fuel,wv] 172)) (.cells #[.pointer p2,.map (some gm)] 244);have k3:=Kept.alloc ((w.alloc (.cells #[.int .i64 fuel,wv] 172)).alloc (.cells #[.pointer p2,.map (some gm)] 244)) (.cells #[.pointer p,.map (some gm)] 244);have aq:=(k1.trans k2).trans k3;have b1:=k3.blk (k2.blk (Vag w (.cells #[.int .i64 fuel,wv] 172)));have b2:=k3.blk (Vag (w.alloc (.cells #[.int .i64 fuel,wv] 172)) (.cells #[.pointer p2,.map (some gm)] 244));have b3:=Vag ((w.alloc (.cells #[.int .i64 fuel,wv] 172)).alloc (.cells #[.pointer p2,.map (some gm)] 244)) (.cells #[.pointer p,.map (some gm)] 244);have s1:(w.alloc (.cells #[.int .i64 fuel,wv] 172)).heap.size=w.heap.size+1:=by simp
 have s2:((w.alloc (.cells #[.int .i64 fuel,wv] 172)).alloc (.cells #[.pointer p2,.map (some gm)] 244)).heap.size=w.heap.size+1+1:=by simp
 rw[s1]at b2;rw[s2]at b3;clear s1 s2;generalize hW:((w.alloc (.cells #[.int .i64 fuel,wv] 172)).alloc (.cells #[.pointer p2,.map (some gm)] 244)).alloc (.cells #[.pointer p,.map (some gm)] 244)=ah at*;have c2:ah.cell? ⟨eb,2,none⟩=some (.slice (some ⟨gx,0,none⟩) ps.length cap):=by simp[Vet,aq.blk hb]
 have aL:=run_make_row' (P:=prog) 345 156 .nilIface 16 VdV IaS rfl .i64 .i64 ps.length (by omega) (by omega) ah;have k4:=Kept.alloc ah (.cells (madeCells #[.nilIface] ps.length) 156);have aJ:=k4.cell c2;have hB:=hT.ga.sz
 have HI:Hid (RI (A:=A) (B:=B) (K:=K) (gv:=gv) (wv:=wv) w ad fuel own own2 p p2 gm ps.length [] σ o (ah.alloc (.cells (madeCells #[.nilIface] ps.length) 156)) ad []):=by
  have hk:=aq.trans k4;have aF:ah.heap.size=w.heap.size+1+1+1:=by rw[<-hW];simp
  refine⟨k4.blk b1,k4.blk b2,k4.blk b3,?_,⟨rfl,fun j d D=>by simp at d⟩,hT.kept hK hk,ai.keep (fun q cs f h=>hk.blk h),Gk.ofKt (Kt.of_kept hk)⟩
  rw[Jd7,<-aF];exact Vag _ _
 have HV:Hid (JdR (fun x=>f x own2) [] (vs.drop 0) σ o=Jbg (fun x=>f x own2) vs σ o):=Jjj _ _ _ _;have HL:Hid _:=hl;have HX:Hid _:=Y;have HP:Hid (w.heap[gx]? =some (.cells ak 130 (0,0))/\∀j (h:j<ps.length),ak[j]? =some ps[j]):=⟨hx,ay⟩
 have HH:Hid _:=h;have HF:Hid _:=hf;clear k1 k2 k3 k4 hl ay Y hT ai h hf b1 b2 b3 aq hb hx;subst hW
 go_enter func236,ntmps236
 go_wp2_with fail
 generalize(((w.alloc (.cells #[.int .i64 fuel,wv] 172)).alloc (.cells #[.pointer p2,.map (some gm)] 244)).alloc (.cells #[.pointer p,.map (some gm)] 244)).alloc (.cells (madeCells #[.nilIface] ps.length) 156)=W0 at*;clear aL c2 aJ
 go_loopw [26] (fun i wr=>∃(j:Nat) (ts:List TR) (E:St) (o1:ω) (G:List Nat) (vals:List Value),j<=ps.length/\i= .int .i64 j/\Hid (vals.length=j)/\Hid (RI (A:=A) (B:=B) (K:=K) (gv:=gv) (wv:=wv) w ad fuel own own2 p p2 gm ps.length ts E o1 wr G vals)/\Hid (JdR (fun x=>f x own2) ts (vs.drop j) E o1=Jbg (fun x=>f x own2) vs σ o)) (fun i _=>ps.length-(intOf i).toNat)
 case atStart=>exact⟨0,[],σ,o,ad,[],VaN _,rfl,rfl,HI,HV⟩
 case round=>
  obtain⟨j,ts,E,o1,G,vals,hj,rfl,HJ,U,ae⟩:=hrel
  by_cases aa:j<ps.length
  .have aj:j<vs.length:=by rw[<-HL.out];exact aa
   have HD:Hid (vs.drop j=vs[j]::vs.drop (j+1)):=Vbl aj;have hF:=U.out
   have cx:wr.cell? ⟨gx,j,none⟩=some ps[j]:=by
    have:=hF.gk.oth (by decide) HP.out.1;simp[Vet,this,HP.out.2 j aa]
   have d0:wr.cell? ⟨w.heap.size,0,none⟩=some (.int .i64 fuel):=by simp[Vet,hF.by0]
   have d1:wr.cell? ⟨w.heap.size,1,none⟩=some wv:=by simp[Vet,hF.by0]
   have d2:wr.cell? ⟨w.heap.size+1,0,none⟩=some (.pointer p2):=by simp[Vet,hF.sc]
   have d3:wr.cell? ⟨w.heap.size+1,1,none⟩=some (.map (some gm)):=by simp[Vet,hF.sc]
   have Y:=HX.out j aj aa;have ai:TI A B K wr G E own2 gv p2 gm o1:=⟨hF.ti.sx,hF.ti.ws,hF.ti.ga,hF.ch,hF.ti.gm,hF.ti.k⟩
   obtain⟨aE,u,eT⟩:=Y.iface;rw[eT]at cx Y
   have aP:∃r,f vs[j] own2 E o1=some r:=by
    have d:=ae.out;have D:=HH.out;simp only[rnd1,Vab]at D;obtain⟨r,D,_⟩:=D;rw[D,HD.out]at d;simp only[JdR,Jbg,Vab]at d;obtain⟨_,⟨r',h3,_⟩,_⟩:=d;exact⟨r',h3⟩
   obtain⟨⟨r1,o2⟩,al⟩:=aP
   have J:Hid (Calls prog 127 #[.agg #[.int .i64 fuel,wv],.iface aE u,.agg #[.pointer p2,.map (some gm)]] wr fun e w2=>(∃a,e=thrown (.iface 407 (.pointer (some a)))/\RnO A B K ad w (thrown (.iface 407 (.pointer (some a)))) w2 res.2 res.1)\/(∃O T,e= .returned (.iface O T)/\w2.cell? ⟨w.heap.size+1+1+1,j,none⟩=some .nilIface/\w2.frozen? ⟨w.heap.size+1+1+1,j,none⟩=false/\Hid (∃(q:TR×St) (ag:List Nat),Hid (RI (A:=A) (B:=B) (K:=K) (gv:=gv) (wv:=wv) w ad fuel own own2 p p2 gm ps.length (ts++ [q.1]) q.2 o2 (w2.setCell ⟨w.heap.size+1+1+1,j,none⟩ (.iface O T)) ag (vals++ [.iface O T]))/\Hid (JdR (fun x=>f x own2) (ts++ [q.1]) (vs.drop (j+1)) q.2 o2=Jbg (fun x=>f x own2) vs σ o)))):=by
    have L:vals.length=j:=HJ.out;refine(STf.call HF.out al (Y.gk hF.gk) ai).mono ?_
    rintro e w2 (⟨i,rfl,rfl,hk,hw⟩|⟨q,O,T,ag,rfl,rfl,hv,aH,hg⟩)
    .have d:=ae.out;rw[HD.out,JnA (fun x=>f x own2) ts vs[j] _ E o1 al]at d;have D:=HH.out;simp only[rnd1,<-d,Vad,Vaa]at D;subst D;exact .inl ⟨_,rfl,rfl,hk,(hF.gk.trans (Gk.ofKw hw)).kw⟩
    .have ac:=hg.oth (by decide) hF.row;rw[Jd9 (by rw[L];exact aa)]at ac;refine .inr ⟨O,T,rfl,Jla ac j L.symm,by simp[World.frozen?,ac],q,ag,?_,?_⟩
     .have:=hF.step hR (by rw[L];exact aa) hv aH hg hB;rwa[L]at this
     .have d:=ae.out;rw[HD.out,JnB (fun x=>f x own2) ts vs[j] _ E o1 al]at d;exact d
   clear hF Y ai al eT HI HV HX HP HF HH U ae HL HD
   go_wp2_with fail
   refine Vac J.out ?_
   rintro e w2 (⟨a,rfl,hE⟩|⟨O,T,rfl,m0,m1,HN⟩)
   .go_wp2
    exact⟨rfl,hE⟩
   .clear J;obtain⟨q,ag,aM,aO⟩:=HN.out
    have aK:Hid ((vals++ [Value.iface O T]).length=j+1):=by
     show _=_;rw[Vap,HJ.out];rfl
    clear HN
    go_wp2
    go_roundw
    case measure=>simp[intOf];omega
    case rel=>exact⟨j+1,ts++ [q.1],q.2,o2,ag,vals++ [.iface O T],aa,by go_num,aK,aM,aO⟩
  .obtain rfl:j=ps.length:=by omega
   have hF:=U.out;have L:vals.length=ps.length:=HJ.out
   obtain⟨bd,I,ax,az,rfl⟩:∃bd I,Jbh E own []=some bd/\JdD E bd ts=some I/\res=(.ok (ts,I),o1):=by
    have d:=ae.out;have D:=HH.out;rw[Vdc (by rw[HL.out];omega),JlD]at d;simp only[rnd1,<-d,Vad,Vab,Vaa]at D;obtain⟨bd,h3,I,h4,rfl⟩:=D;exact⟨bd,I,h3,h4,rfl⟩
   have d2:wr.cell? ⟨w.heap.size+1+1,0,none⟩=some (.pointer p):=by simp[Vet,hF.so]
   have d3:wr.cell? ⟨w.heap.size+1+1,1,none⟩=some (.map (some gm)):=by simp[Vet,hF.so]
   have J:Hid _:=JhW (gm:=gm) ax hF.ti.sx hF.ti.ch
   have ac:TRow wr (w.heap.size+1+1+1) vals:=by
    have:=hF.row;rw[L,Nat.sub_self,List.replicate_zero,Vb6]at this;exact this
   have HR:Hid _:=ac;have HG:Hid (JdD E bd (ts.drop 0)=some I):=az;have af:ts.length=ps.length:=by rw[<-hF.rv.1,L]
   have ao:Hid _:=af;clear hF L ax az ac HI HV HX HP HF HH ae HL af
   go_wp2_with fail
   refine Vac J.out ?_
   rintro e w3 ⟨mb,rfl,aB,aw,aR,aA⟩;have HS:Hid (SX w3 G E/\TMp w3 mb G (pvP bd)/\WS E):=⟨aw,aB,U.out.ti.ws⟩
   have av:Hid _:=aA;clear J aw aB aA
   go_wp2_with fail
   obtain⟨wq,aQ⟩:∃wq,wq=wr:=⟨wr,rfl⟩
   subst aQ
   go_loopw [43] (fun i an=>∃(j:Nat) (M:St),j<=ps.length/\i= .int .i64 j/\Hid (SX an G M/\TMp an mb G (pvP bd)/\WS M)/\Hid (Kt G (fun _=>False) wq an)/\Hid (JdD M bd (ts.drop j)=some I)) (fun i _=>ps.length-(intOf i).toNat)
   case atStart=>exact⟨0,E,VaN _,rfl,HS,av,HG⟩
   case round=>
    obtain⟨j,M,aS,rfl,V,Z,am⟩:=hrel
    by_cases af:j<ps.length
    .have aj:j<vals.length:=by rw[HJ.out];exact af
     have aC:j<ts.length:=by rw[ao.out];exact af
     have c0:=(TRow.kt HR.out Z.out).cell j aj;have hv:=U.out.rv.2 j aC aj
     obtain⟨W,au,aD⟩:∃W,genF fuN M ts[j] bd=some W/\JdD W bd (ts.drop (j+1))=some I:=by
      have:=am.out;rw[Vbl aC]at this;simpa only[JdD,Vab]using this
     have J:Hid (Calls prog 164 #[vals[j],.map (some mb)] wr fun e w'=>e= .returned (.tuple #[])/\Hid (SX w' G W/\TMp w' mb G (pvP bd)/\WS W)/\Hid (Kt G (fun _=>False) wq w')):=by
      refine(Jj0 fuN M W ts[j] bd au wr G vals[j] mb V.out.1 hv V.out.2.1).mono ?_
      rintro e w' ⟨rfl,d,D,h3⟩;exact⟨rfl,⟨d,D,V.out.2.2.gen fuN au⟩,Z.out.trans h3⟩
     have aN:Hid _:=aD;obtain⟨aE,u,eT⟩:=hv.iface;rw[eT]at c0 J;clear hv au aD eT V Z am HS av HG HR
     go_wp2_with fail
     refine Vac J.out ?_
     rintro e w' ⟨rfl,aI,aG⟩;clear J
     go_wp2
     go_roundw
     case measure=>simp[intOf];omega
     case rel=>exact⟨j+1,W,af,by go_num,aI,aG,aN⟩
    .obtain rfl:M=I:=by
      have:=am.out;rw[Vdc (by rw[ao.out];omega)]at this;simpa[JdD]using this
     have HE:Hid (RnO A B K ad w (.returned (.slice (some ⟨w.heap.size+1+1+1,0,none⟩) ps.length ps.length)) wr o1 (.ok (ts,M))):=by
      have hF:=U.out;refine⟨w.heap.size+1+1+1,vals,G,by rw[ao.out],by omega,TRow.kt HR.out Z.out,hF.rv,V.out.1,V.out.2.2,hK _ _ _ _ hF.ti.k Z.out,hF.gk.trans (Gk.ofKt Z.out)⟩
     clear V Z am HS av HG HR U
     go_wp2
     exact VaI (VdO results236 _ _ _) rfl HE.out
end
end Go.Proofs.YtleenphlgbklmaaGreatDoor
