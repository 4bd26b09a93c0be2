import Derived.Test.YtleenphlgbklmaaGreatDoorACPTyB
set_option linter.unusedVariables false
set_option linter.unusedSimpArgs false
set_option maxRecDepth 100000
set_option maxHeartbeats 8000000
namespace Go.Proofs.YtleenphlgbklmaaGreatDoor
open Go.RowKit
open World renaming cell? → Vet
open Tryz
variable {s:BA}{kws:List BA}{L:List Tk}
theorem JcS(W:PEnv s kws L)(ah:⟨#[105,110,116]⟩∈kws)(ak:⟨#[98,111,111,108]⟩∈kws){w:World}{d E k:Nat}{names:List BA}{vb:List Nat}
 (h:PAt w d s L k)(J:VM w E names vb):∃(kd0:Nat) (D:World),(w.alloc (.cells #[.pointer (some ⟨d,0,none⟩),.map (some E)] 210)).alloc (.cells #[.int .i64 kd0,.int .i64 (tkAt L k).loc,.string (tkAt L k).s] 254)=D/\Kept w D/\PAt D d s L k/\VM D E names vb/\d<w.heap.size/\E<w.heap.size/\(w.alloc (.cells #[.pointer (some ⟨d,0,none⟩),.map (some E)] 210)).cell? ⟨d,1,none⟩=some (.int .i64 kd0)/\(w.alloc (.cells #[.pointer (some ⟨d,0,none⟩),.map (some E)] 210)).cell? ⟨d,2,none⟩=some (.int .i64 (tkAt L k).loc)/\(w.alloc (.cells #[.pointer (some ⟨d,0,none⟩),.map (some E)] 210)).cell? ⟨d,3,none⟩=some (.string (tkAt L k).s)/\D.cell? ⟨w.heap.size,0,none⟩=some (.pointer (some ⟨d,0,none⟩))/\D.cell? ⟨w.heap.size,1,none⟩=some (.map (some E))/\D.cell? ⟨w.heap.size+1,0,none⟩=some (.int .i64 kd0)/\D.cell? ⟨w.heap.size+1,1,none⟩=some (.int .i64 (tkAt L k).loc)/\D.cell? ⟨w.heap.size+1,2,none⟩=some (.string (tkAt L k).s)/\D.heap[w.heap.size]? =some (.cells #[.pointer (some ⟨d,0,none⟩),.map (some E)] 210 (0,0))/\D.heap[w.heap.size+1]? =some (.cells #[.int .i64 kd0,.int .i64 (tkAt L k).loc,.string (tkAt L k).s] 254 (0,0))/\Hid (pTok s (tkAt L k).loc=some (kd0,(tkAt L k).s,(tkAt L k).loc+(tkAt L k).s.size))/\Hid (Calls prog 129 #[.pointer (some ⟨d,0,none⟩),.string ⟨#[105,110,116]⟩] D fun e w'=>e= .returned (.bool (isM L ⟨#[105,110,116]⟩ k (-1)))/\w'=D)/\Hid (Calls prog 129 #[.pointer (some ⟨d,0,none⟩),.string ⟨#[98,111,111,108]⟩] D fun e w'=>e= .returned (.bool (isM L ⟨#[98,111,111,108]⟩ k (-1)))/\w'=D):=by
 obtain⟨kd0,Y,Z⟩:=h.ex;have V:w.heap[d]? =some (.cells #[.string s,.int .i64 kd0,.int .i64 (tkAt L k).loc,.string (tkAt L k).s] 256 (0,0)):=Y;have U:Kept w (w.alloc (.cells #[.pointer (some ⟨d,0,none⟩),.map (some E)] 210)):=Kept.alloc _ _;have aa:Kept (w.alloc (.cells #[.pointer (some ⟨d,0,none⟩),.map (some E)] 210)) ((w.alloc (.cells #[.pointer (some ⟨d,0,none⟩),.map (some E)] 210)).alloc (.cells #[.int .i64 kd0,.int .i64 (tkAt L k).loc,.string (tkAt L k).s] 254)):=Kept.alloc _ _;have T:=U.trans aa;have ac:(w.alloc (.cells #[.pointer (some ⟨d,0,none⟩),.map (some E)] 210)).heap[w.heap.size]? =some (.cells #[.pointer (some ⟨d,0,none⟩),.map (some E)] 210 (0,0)):=Vag _ _;have M:=aa.blk ac
 have I:((w.alloc (.cells #[.pointer (some ⟨d,0,none⟩),.map (some E)] 210)).alloc (.cells #[.int .i64 kd0,.int .i64 (tkAt L k).loc,.string (tkAt L k).s] 254)).heap[w.heap.size+1]? =some (.cells #[.int .i64 kd0,.int .i64 (tkAt L k).loc,.string (tkAt L k).s] 254 (0,0)):=by
  have:=Vag (w.alloc (.cells #[.pointer (some ⟨d,0,none⟩),.map (some E)] 210)) (.cells #[.int .i64 kd0,.int .i64 (tkAt L k).loc,.string (tkAt L k).s] 254);simpa using this
 have O:=h.kept T;have ai:=J.kept T;have G:=U.blk V;have af:=h.ltq;have ae:=Vah J.mp;have d1:(w.alloc (.cells #[.pointer (some ⟨d,0,none⟩),.map (some E)] 210)).cell? ⟨d,1,none⟩=some (.int .i64 kd0):=by simp only[Vet,G];rfl
 have d2:(w.alloc (.cells #[.pointer (some ⟨d,0,none⟩),.map (some E)] 210)).cell? ⟨d,2,none⟩=some (.int .i64 (tkAt L k).loc):=by simp only[Vet,G];rfl
 have d3:(w.alloc (.cells #[.pointer (some ⟨d,0,none⟩),.map (some E)] 210)).cell? ⟨d,3,none⟩=some (.string (tkAt L k).s):=by simp only[Vet,G];rfl
 have aj:Hid _:=Z;clear h J Y V G Z ac;generalize ag:(w.alloc (.cells #[.pointer (some ⟨d,0,none⟩),.map (some E)] 210)).alloc (.cells #[.int .i64 kd0,.int .i64 (tkAt L k).loc,.string (tkAt L k).s] 254)=D at*;have a0:D.cell? ⟨w.heap.size,0,none⟩=some (.pointer (some ⟨d,0,none⟩)):=by simp[Vet,M]
 have a1:D.cell? ⟨w.heap.size,1,none⟩=some (.map (some E)):=by simp[Vet,M]
 have t0:D.cell? ⟨w.heap.size+1,0,none⟩=some (.int .i64 kd0):=by simp[Vet,I]
 have t1:D.cell? ⟨w.heap.size+1,1,none⟩=some (.int .i64 (tkAt L k).loc):=by simp[Vet,I]
 have t2:D.cell? ⟨w.heap.size+1,2,none⟩=some (.string (tkAt L k).s):=by simp[Vet,I]
 exact⟨kd0,D,ag,T,O,ai,af,ae,d1,d2,d3,a0,a1,t0,t1,t2,M,I,aj,Jbz W O ⟨#[105,110,116]⟩ (.inl ah),Jbz W O ⟨#[98,111,111,108]⟩ (.inl ak)⟩
theorem JmL(s:BA)(kws:List BA)(L:List Tk)(J:PEnv s kws L)(ae:⟨#[105,110,116]⟩∈kws)(au:⟨#[98,111,111,108]⟩∈kws)(w:World)(E D k:Nat)(names:List BA)(vb:List Nat)
 (ag:PAt w E s L k)(Z:VM w D names vb)(aA:NmOk L names)(av:E≠D)(O:isM L ⟨#[105,110,116]⟩ k (-1)=true):
  Calls prog 143 #[.agg #[.pointer (some ⟨E,0,none⟩),.map (some D)]] w fun e w'=>PRes w E D s L (.mk ⟨#[105,110,116]⟩ 0 []) names (k+1) (-1) vb e w':=by
 obtain⟨kd0,w1,ai,ah,h,ak,ax,aw,d1,d2,d3,a0,a1,t0,t1,t2,ac,I,az,U,HB⟩:=JcS J ae au ag Z;have hG:=J.good;clear ag Z;have T:Kq (fun q=>q=E\/q=D) w w1:=Kq.of_kept ah;have aa:=Jar hG h.lt O (by decide) (by decide)
 have V:(tkAt L k).s=⟨#[105,110,116]⟩:=by
  have e:=JbI J h ⟨#[105,110,116]⟩ (.inl ae);rw[O,VaL,VaL]at e;exact(Jaf _ _).1 e
 rw[V]at t2 d3 ai;rw[O]at U
 by_cases Y:(tkAt L (k+1)).is=⟨#[110,111,110,101]⟩
 .have W:Hid _:=JdA J h aa Y;clear O ac I V
  go_enter Vce,Vb3
  go_wp2_with fail
  refine Vac U.out ?_
  rintro e w' ⟨rfl,M⟩;rw[M];clear M w'
  go_wp2_with fail
  refine Vac W.out ?_
  rintro e G ⟨b,he,aj,ao,aq⟩;rw[he];clear he
  go_wp2
  exact⟨rfl,PRes.thr (Thr2.before (Thr2.of ⟨b,rfl,aj,ao,aq⟩) T) (.inr ⟨by omega,Y,rfl⟩)⟩
 .have W:Hid _:=Je2 J h aa Y;clear O V
  go_enter Vce,Vb3
  go_wp2_with fail
  refine Vac U.out ?_
  rintro e w' ⟨rfl,M⟩;rw[M];clear M w'
  go_wp2_with fail
  refine Vac W.out ?_
  rintro e G ⟨rfl,d,af⟩;have am:=(d.block (w.heap.size+1) (Vah I) (by show¬_;omega)).trans I;have ay:G.cell? ⟨w.heap.size+1,2,none⟩=some (.string ⟨#[105,110,116]⟩):=by have e:=VaH (a:=⟨w.heap.size+1,2,none⟩) (d.block (w.heap.size+1) (Vah I) (by show¬_;omega));exact e.trans t2
  have an:PTyR G vb w.heap.size G.heap.size (.mk ⟨#[105,110,116]⟩ 0 []) (.iface 343 (.agg #[.string ⟨#[105,110,116]⟩])):= .base _ _ _ (Vas T.size d.size) (.inl rfl);have al:PEnd w G E D s L (k+1) names vb vb:=⟨af,ak.rd h d av,⟨[],by simp⟩,(PKeep.kept ah).trans (PKeep.pat h d),T.trans (Kq.of_kp d (fun q e=>Or.inl e))⟩
  clear d af am I ac
  go_wp2
  go_ret
  exact PRes.ret (by omega) an al
theorem JkM(s:BA)(kws:List BA)(L:List Tk)(M:PEnv s kws L)(ak:⟨#[105,110,116]⟩∈kws)(ah:⟨#[98,111,111,108]⟩∈kws)(w:World)(G E k:Nat)(names:List BA)(vb:List Nat)
 (af:PAt w G s L k)(hv:VM w E names vb)(aB:NmOk L names)(aw:G≠E)(av:isM L ⟨#[105,110,116]⟩ k (-1)=false)(O:isM L ⟨#[98,111,111,108]⟩ k (-1)=true):
  Calls prog 143 #[.agg #[.pointer (some ⟨G,0,none⟩),.map (some E)]] w fun e w'=>PRes w G E s L (.mk ⟨#[98,111,111,108]⟩ 0 []) names (k+1) (-1) vb e w':=by
 obtain⟨kd0,w1,ai,ag,D,al,ay,ax,d1,d2,d3,a0,a1,t0,t1,t2,ac,J,aA,U,W⟩:=JcS M ak ah af hv;have hG:=M.good;clear af hv;have T:Kq (fun q=>q=G\/q=E) w w1:=Kq.of_kept ag;have aa:=Jar hG D.lt O (by decide) (by decide)
 have V:(tkAt L k).s=⟨#[98,111,111,108]⟩:=by
  have e:=JbI M D ⟨#[98,111,111,108]⟩ (.inl ah);rw[O,VaL,VaL]at e;exact(Jaf _ _).1 e
 rw[V]at t2 d3 ai;rw[av]at U;rw[O]at W
 by_cases Z:(tkAt L (k+1)).is=⟨#[110,111,110,101]⟩
 .have Y:Hid _:=JdA M D aa Z;clear O ac J V
  go_enter Vce,Vb3
  go_wp2_with fail
  refine Vac U.out ?_
  rintro e w' ⟨rfl,d⟩;rw[d];clear d w'
  go_wp2_with fail
  refine Vac W.out ?_
  rintro e w' ⟨rfl,d⟩;rw[d];clear d w'
  go_wp2_with fail
  refine Vac Y.out ?_
  rintro e I ⟨b,he,aj,aq,au⟩;rw[he];clear he
  go_wp2
  exact⟨rfl,PRes.thr (Thr2.before (Thr2.of ⟨b,rfl,aj,aq,au⟩) T) (.inr ⟨by omega,Z,rfl⟩)⟩
 .have Y:Hid _:=Je2 M D aa Z;clear O V
  go_enter Vce,Vb3
  go_wp2_with fail
  refine Vac U.out ?_
  rintro e w' ⟨rfl,d⟩;rw[d];clear d w'
  go_wp2_with fail
  refine Vac W.out ?_
  rintro e w' ⟨rfl,d⟩;rw[d];clear d w'
  go_wp2_with fail
  refine Vac Y.out ?_
  rintro e I ⟨rfl,h,ae⟩;have an:=(h.block (w.heap.size+1) (Vah J) (by show¬_;omega)).trans J;have az:I.cell? ⟨w.heap.size+1,2,none⟩=some (.string ⟨#[98,111,111,108]⟩):=by have e:=VaH (a:=⟨w.heap.size+1,2,none⟩) (h.block (w.heap.size+1) (Vah J) (by show¬_;omega));exact e.trans t2
  have ao:PTyR I vb w.heap.size I.heap.size (.mk ⟨#[98,111,111,108]⟩ 0 []) (.iface 343 (.agg #[.string ⟨#[98,111,111,108]⟩])):= .base _ _ _ (Vas T.size h.size) (.inr rfl);have am:PEnd w I G E s L (k+1) names vb vb:=⟨ae,al.rd D h aw,⟨[],by simp⟩,(PKeep.kept ag).trans (PKeep.pat D h),T.trans (Kq.of_kp h (fun q e=>Or.inl e))⟩
  clear h ae an J ac
  go_wp2
  go_ret
  exact PRes.ret (by omega) ao am
variable {k kd0:Nat}
theorem JiB(D:PEnv s kws L)(E:k<L.length)(h:pTok s (tkAt L k).loc=some (kd0,(tkAt L k).s,(tkAt L k).loc+(tkAt L k).s.size)):(kd0=1->(tkAt L k).is=⟨#[110,97,109,101]⟩\/kwIn kws (tkAt L k).s=true)/\((tkAt L k).is=⟨#[110,97,109,101]⟩->kd0=1):=by
 have l:=(Jbw D.kw D.eq k E).2
 cases l with
 |fin a b c d e=>
  rw[d]at h;simp only[Vaa,Vaf]at h;refine⟨fun q=>by omega,fun q=> ?_⟩
  rw[b]at q;exact absurd q (Jac (by decide))
 |bad a b=>rw[b]at h;cases h
 |word a b c d=>
  rw[c]at h;simp only[Vaa,Vaf]at h;refine⟨fun _=> ?_,fun _=>h.1.symm⟩
  rw[d]
  by_cases q:kwIn kws (tkAt L k).s=true
  .exact .inr q
  .rw[Vaq q];exact .inl rfl
 |num a b c d e=>
  rw[d]at h;simp only[Vaa,Vaf]at h;refine⟨fun q=>by omega,fun q=> ?_⟩
  rw[e]at q;exact absurd q (Jac (by decide))
 |sign a b c d e f=>
  rw[d]at h;simp only[Vaa,Vaf]at h;refine⟨fun q=>by omega,fun q=> ?_⟩
  rw[e]at q
  rcases f with f|⟨_,f,_⟩
  .rw[f]at q;exact absurd q (Jac (by decide))
  .rw[f]at q;have q:=VbH (fun x=>x.size) q;have q:(1:Nat)=4:=q;omega
theorem JkO(s:BA)(kws:List BA)(L:List Tk)(V:PEnv s kws L)(aB:⟨#[105,110,116]⟩∈kws)(aK:⟨#[98,111,111,108]⟩∈kws)(w:World)(d D k:Nat)(names:List BA)(vb:List Nat)
 (ao:PAt w d s L k)(hv:VM w D names vb)(aI:NmOk L names)(aw:d≠D)(aj:isM L ⟨#[105,110,116]⟩ k (-1)=false)(ag:isM L ⟨#[98,111,111,108]⟩ k (-1)=false)(Y:isM L ⟨#[110,97,109,101]⟩ k (-1)=true):
  Calls prog 143 #[.agg #[.pointer (some ⟨d,0,none⟩),.map (some D)]] w fun e w'=>PRes w d D s L (Jcz names (tkAt L k).s).1 (Jcz names (tkAt L k).s).2 (k+1) (-1) vb e w':=by
 obtain⟨kd0,w1,aO,av,T,aC,aN,aM,d1,d2,d3,a0,a1,t0,t1,t2,U,ac,aE,HI,HB⟩:=JcS V aB aK ao hv;have hG:=V.good;clear ao hv;have am:Kq (fun q=>q=d\/q=D) w w1:=Kq.of_kept av;have al:=Jar hG T.lt Y (by decide) (by decide)
 have aq:kd0=1:=(JiB V T.lt aE.out).2 (by
  simp only[isM,Vaz]at Y;exact(Jaf _ _).1 Y.2)
 have aP:((kd0:Int)==1)=true:=by simp[aq]
 clear aq;rw[aj]at HI;rw[ag]at HB;have au:=aI.nd
 by_cases ak:(tkAt L (k+1)).is=⟨#[110,111,110,101]⟩
 .have HA:Hid _:=JdA V T al ak;clear Y aj ag U ac
  go_enter Vce,Vb3
  go_wp2_with fail
  refine Vac HI.out ?_
  rintro e w' ⟨rfl,h⟩;rw[h];clear h w'
  go_wp2_with fail
  refine Vac HB.out ?_
  rintro e w' ⟨rfl,h⟩;rw[h];clear h w'
  go_wp2_with fail
  refine Vac HA.out ?_
  rintro e O ⟨b,he,aA,aH,aG⟩;rw[he];clear he
  go_wp2
  exact⟨rfl,PRes.thr (Thr2.before (Thr2.of ⟨b,rfl,aA,aH,aG⟩) am) (.inr ⟨by omega,ak,rfl⟩)⟩
 .have HA:Hid _:=Je2 V T al ak;clear Y aj ag
  go_enter Vce,Vb3
  go_wp2_with fail
  refine Vac HI.out ?_
  rintro e w' ⟨rfl,h⟩;rw[h];clear h w'
  go_wp2_with fail
  refine Vac HB.out ?_
  rintro e w' ⟨rfl,h⟩;rw[h];clear h w'
  go_wp2_with fail
  refine Vac HA.out ?_
  rintro e O ⟨rfl,M,ae⟩;have aS:O.cell? ⟨w.heap.size+1,2,none⟩=some (.string (tkAt L k).s):=by have e:=VaH (a:=⟨w.heap.size+1,2,none⟩) (M.block (w.heap.size+1) (Vah ac) (by show¬_;omega));exact e.trans t2
  have aa:=(M.block w.heap.size (Vah U) (by show¬_;omega)).trans U;have aQ:O.cell? ⟨w.heap.size,0,none⟩=some (.pointer (some ⟨d,0,none⟩)):=by simp[Vet,aa]
  have aR:O.cell? ⟨w.heap.size,1,none⟩=some (.map (some D)):=by simp[Vet,aa]
  have G:=aC.rd T M aw;have an:=(PKeep.kept av).trans (PKeep.pat T M);have W:=am.trans (Kq.of_kp (S:=fun q=>q=d\/q=D) M (fun q e=>Or.inl e))
  cases I:names.findIdx? (fun x=>Jag x (tkAt L k).s)with
  |some j=>
   have Z:Hid _:=JmR O D d names vb (tkAt L k).s G au j I;have af:Hid (Jcz names (tkAt L k).s=(.mk ⟨#[]⟩ j [],names)):=by show _=_;unfold Jcz;rw[I]
   have ay:j<names.length:=by
    rw[VaZ]at I;exact I.1
   have aF:Hid (vb[j]? =some (vb.getD j 0)):=by
    show _=_;have:j<vb.length:=by rw[G.len];exact ay
    simp[List.getD,this]
   clear M ac U aa I
   go_wp2_with fail
   refine Vac Z.out ?_
   rintro e J ⟨rfl,E⟩;have ah:PEnd w J d D s L (k+1) names vb vb:=⟨ae.kept E,G.kept E,⟨[],by simp⟩,an.trans (PKeep.kept E),W.trans (Kq.of_kept E)⟩
   have ai:PTyR J vb w.heap.size J.heap.size (.mk ⟨#[]⟩ j []) (.iface 216 (.pointer (some ⟨vb.getD j 0,0,none⟩))):= .var j _ _ _ (Vas W.size E.size) aF.out;clear Z G
   go_wp2
   go_ret
   rw[af.out];exact PRes.ret (by omega) ai ah
  |none=>
   have Z:Hid _:=JmQ O D d names vb (tkAt L k).s G au I;have af:Hid (Jcz names (tkAt L k).s=(.mk ⟨#[]⟩ names.length [],names++ [(tkAt L k).s])):=by show _=_;unfold Jcz;rw[I]
   have aL:=G.len;clear M ac U aa I
   go_wp2_with fail
   refine Vac Z.out ?_
   rintro e J ⟨b,rfl,aD,E,ax⟩
   have aJ:PAt J d s L (k+1):=by
    obtain⟨az,e1,e2⟩:=ae.ex;exact⟨⟨az,E.blk e1 (fun e=>aw e),e2⟩,ae.lt,ae.nn⟩
   have ah:PEnd w J d D s L (k+1) (names++ [(tkAt L k).s]) vb (vb++ [b]):=⟨aJ,aD,⟨[b],rfl,fun c hc=>by simp at hc;subst hc;exact Vas W.size ax⟩,an.trans (PKeep.vm G E),W.trans (Kq.of_kp E (fun q e=>Or.inr e))⟩
   have ai:PTyR J (vb++ [b]) w.heap.size J.heap.size (.mk ⟨#[]⟩ names.length []) (.iface 216 (.pointer (some ⟨b,0,none⟩))):= .var _ _ _ _ (Vas W.size E.size) (by rw[<-aL];simp);clear Z G
   go_wp2
   go_ret
   rw[af.out];exact PRes.ret (by omega) ai ah
theorem JkN(s:BA)(kws:List BA)(L:List Tk)(G:PEnv s kws L)(ac:⟨#[105,110,116]⟩∈kws)(aj:⟨#[98,111,111,108]⟩∈kws)(w:World)(D h k:Nat)(names:List BA)(vb:List Nat)(t:Ty)(ah:List BA)(V:Nat)(O:Int)
 (ag:PAt w D s L k)(Z:VM w h names vb)(aC:NmOk L names)(aE:D≠h)(av:kws= [⟨#[105,110,116]⟩,⟨#[98,111,111,108]⟩])(Y:isM L ⟨#[105,110,116]⟩ k (-1)=false)(W:isM L ⟨#[98,111,111,108]⟩ k (-1)=false)(ai:isM L ⟨#[110,97,109,101]⟩ k (-1)=false)(hM:isM L ⟨#[91]⟩ k (-1)=true)(hC:∀E,PAt E D s L k->VM E h names vb->Calls prog 180 #[.agg #[.pointer (some ⟨D,0,none⟩),.map (some h)]] E fun e w'=>PRes E D h s L t ah V O vb e w'):
  Calls prog 143 #[.agg #[.pointer (some ⟨D,0,none⟩),.map (some h)]] w fun e w'=>PRes w D h s L t ah V O vb e w':=by
 obtain⟨kd0,E,ay,U,J,an,ax,aw,d1,d2,d3,a0,a1,t0,t1,t2,ak,am,ao,HI,HB⟩:=JcS G ac aj ag Z;have hG:=G.good;clear ag Z;have ae:Kq (fun q=>q=D\/q=h) w E:=Kq.of_kept U
 have aA:kd0≠1:=fun e=>by
  rcases(JiB G J.lt ao.out).1 e with q|q
  .have:isM L ⟨#[110,97,109,101]⟩ k (-1)=true:=by simp only[isM,q];rfl
   rw[ai]at this
   cases this
  .have q:=JbB q;rw[av]at q;simp at q
   rcases q with q|q
   .have e:=JbI G J ⟨#[105,110,116]⟩ (.inl ac);rw[q,Y]at e;simp at e
   .have e:=JbI G J ⟨#[98,111,111,108]⟩ (.inl aj);rw[q,W]at e;simp at e
 have az:((kd0:Int)==1)=false:=by simp;omega
 rw[Y]at HI;rw[W]at HB;have HL:Hid _:=Jbz G J ⟨#[91]⟩ (.inr (.inr ⟨91,rfl,rfl⟩));rw[hM]at HL;have HC:Hid _:=hC E J an;clear hM Y W ai ak am hC
 go_enter Vce,Vb3
 go_wp2_with fail
 refine Vac HI.out ?_
 rintro e w' ⟨rfl,d⟩;rw[d];clear d w'
 go_wp2_with fail
 refine Vac HB.out ?_
 rintro e w' ⟨rfl,d⟩;rw[d];clear d w'
 go_wp2_with fail
 refine Vac HL.out ?_
 rintro e w' ⟨rfl,d⟩;rw[d];clear d w'
 go_wp2_with fail
 refine Vac HC.out ?_
 intro e w3 T
 by_cases aa:0<=O\/(tkAt L V).is=⟨#[110,111,110,101]⟩
 .obtain⟨loc,hl,b,M,al,aq,au⟩:=T.thrown aa;rw[M];clear M T
  go_wp2
  exact⟨rfl,PRes.thr (Thr2.before ⟨b,rfl,al,aq,au⟩ ae) hl⟩
 .have af:O<0:=by omega
  obtain⟨v,aB,M,hx,I⟩:=T.1 af (fun e=>aa (.inr e));obtain⟨aD,u,rfl⟩:=hx.iface;subst M;clear T
  go_wp2
  go_ret
  exact PRes.ret af (hx.wide U.size (Vau _)) ⟨I.at',I.vm,Jdo I.pre U.size,(PKeep.kept U).trans I.pk,ae.trans I.kp⟩
theorem JmK(s:BA)(kws:List BA)(L:List Tk)(E:PEnv s kws L)(ac:⟨#[105,110,116]⟩∈kws)(ak:⟨#[98,111,111,108]⟩∈kws)(w:World)(D h k:Nat)(names:List BA)(vb:List Nat)(t:Ty)(ai:List BA)(V:Nat)(O:Int)
 (ah:PAt w D s L k)(Z:VM w h names vb)(aD:NmOk L names)(aF:D≠h)(aw:kws= [⟨#[105,110,116]⟩,⟨#[98,111,111,108]⟩])(Y:isM L ⟨#[105,110,116]⟩ k (-1)=false)(W:isM L ⟨#[98,111,111,108]⟩ k (-1)=false)(aj:isM L ⟨#[110,97,109,101]⟩ k (-1)=false)(ae:isM L ⟨#[91]⟩ k (-1)=false)(hM:isM L ⟨#[40]⟩ k (-1)=true)(hC:∀G,PAt G D s L k->VM G h names vb->Calls prog 181 #[.agg #[.pointer (some ⟨D,0,none⟩),.map (some h)]] G fun e w'=>PRes G D h s L t ai V O vb e w'):
  Calls prog 143 #[.agg #[.pointer (some ⟨D,0,none⟩),.map (some h)]] w fun e w'=>PRes w D h s L t ai V O vb e w':=by
 obtain⟨kd0,G,az,U,I,ao,ay,ax,d1,d2,d3,a0,a1,t0,t1,t2,al,an,aq,HI,HB⟩:=JcS E ac ak ah Z;have hG:=E.good;clear ah Z;have af:Kq (fun q=>q=D\/q=h) w G:=Kq.of_kept U
 have aB:kd0≠1:=fun e=>by
  rcases(JiB E I.lt aq.out).1 e with q|q
  .have:isM L ⟨#[110,97,109,101]⟩ k (-1)=true:=by simp only[isM,q];rfl
   rw[aj]at this
   cases this
  .have q:=JbB q;rw[aw]at q;simp at q
   rcases q with q|q
   .have e:=JbI E I ⟨#[105,110,116]⟩ (.inl ac);rw[q,Y]at e;simp at e
   .have e:=JbI E I ⟨#[98,111,111,108]⟩ (.inl ak);rw[q,W]at e;simp at e
 have aA:((kd0:Int)==1)=false:=by simp;omega
 rw[Y]at HI;rw[W]at HB;have HL:Hid _:=Jbz E I ⟨#[91]⟩ (.inr (.inr ⟨91,rfl,rfl⟩));have HP:Hid _:=Jbz E I ⟨#[40]⟩ (.inr (.inr ⟨40,rfl,rfl⟩));rw[ae]at HL;rw[hM]at HP;have HC:Hid _:=hC G I ao;clear hM Y W aj ae al an hC
 go_enter Vce,Vb3
 go_wp2_with fail
 refine Vac HI.out ?_
 rintro e w' ⟨rfl,d⟩;rw[d];clear d w'
 go_wp2_with fail
 refine Vac HB.out ?_
 rintro e w' ⟨rfl,d⟩;rw[d];clear d w'
 go_wp2_with fail
 refine Vac HL.out ?_
 rintro e w' ⟨rfl,d⟩;rw[d];clear d w'
 go_wp2_with fail
 refine Vac HP.out ?_
 rintro e w' ⟨rfl,d⟩;rw[d];clear d w'
 go_wp2_with fail
 refine Vac HC.out ?_
 intro e w3 T
 by_cases aa:0<=O\/(tkAt L V).is=⟨#[110,111,110,101]⟩
 .obtain⟨loc,hl,b,M,am,au,av⟩:=T.thrown aa;rw[M];clear M T
  go_wp2
  exact⟨rfl,PRes.thr (Thr2.before ⟨b,rfl,am,au,av⟩ af) hl⟩
 .have ag:O<0:=by omega
  obtain⟨v,aC,M,hx,J⟩:=T.1 ag (fun e=>aa (.inr e));obtain⟨aE,u,rfl⟩:=hx.iface;subst M;clear T
  go_wp2
  go_ret
  exact PRes.ret ag (hx.wide U.size (Vau _)) ⟨J.at',J.vm,Jdo J.pre U.size,(PKeep.kept U).trans J.pk,af.trans J.kp⟩
theorem JmJ(s:BA)(kws:List BA)(L:List Tk)(h:PEnv s kws L)(V:⟨#[105,110,116]⟩∈kws)(af:⟨#[98,111,111,108]⟩∈kws)(w:World)(D G k:Nat)(names:List BA)(vb:List Nat)(t:Ty)(al:List BA)(k':Nat)
 (aa:PAt w D s L k)(O:VM w G names vb)(aA:NmOk L names)(aB:D≠G)(aq:kws= [⟨#[105,110,116]⟩,⟨#[98,111,111,108]⟩])(M:isM L ⟨#[105,110,116]⟩ k (-1)=false)(J:isM L ⟨#[98,111,111,108]⟩ k (-1)=false)(ae:isM L ⟨#[110,97,109,101]⟩ k (-1)=false)(W:isM L ⟨#[91]⟩ k (-1)=false)(ac:isM L ⟨#[40]⟩ k (-1)=false):
  Calls prog 143 #[.agg #[.pointer (some ⟨D,0,none⟩),.map (some G)]] w fun e w'=>PRes w D G s L t al k' (tkAt L k).loc vb e w':=by
 obtain⟨kd0,I,aw,am,E,ay,av,au,d1,d2,d3,a0,a1,t0,t1,t2,ag,ai,ak,Z,HB⟩:=JcS h V af aa O;have hG:=h.good;clear aa O;have aj:Kq (fun q=>q=D\/q=G) w I:=Kq.of_kept am
 have az:kd0≠1:=fun e=>by
  rcases(JiB h E.lt ak.out).1 e with q|q
  .have:isM L ⟨#[110,97,109,101]⟩ k (-1)=true:=by simp only[isM,q];rfl
   rw[ae]at this
   cases this
  .have q:=JbB q;rw[aq]at q;simp at q
   rcases q with q|q
   .have e:=JbI h E ⟨#[105,110,116]⟩ (.inl V);rw[q,M]at e;simp at e
   .have e:=JbI h E ⟨#[98,111,111,108]⟩ (.inl af);rw[q,J]at e;simp at e
 have ax:((kd0:Int)==1)=false:=by simp;omega
 rw[M]at Z;rw[J]at HB;have U:Hid _:=Jbz h E ⟨#[91]⟩ (.inr (.inr ⟨91,rfl,rfl⟩));have T:Hid _:=Jbz h E ⟨#[40]⟩ (.inr (.inr ⟨40,rfl,rfl⟩));rw[W]at U;rw[ac]at T;have HX:Hid _:=(by obtain⟨kdx,e1,_⟩:=E.ex;exact JeC I D s _ kdx _ e1:Calls prog 134 #[.pointer (some ⟨D,0,none⟩)] I fun e w'=>ThrS I (tkAt L k).loc e w')
 clear M J ae W ac ag ai
 go_enter Vce,Vb3
 go_wp2_with fail
 refine Vac Z.out ?_
 rintro e w' ⟨rfl,d⟩;rw[d];clear d w'
 go_wp2_with fail
 refine Vac HB.out ?_
 rintro e w' ⟨rfl,d⟩;rw[d];clear d w'
 go_wp2_with fail
 refine Vac U.out ?_
 rintro e w' ⟨rfl,d⟩;rw[d];clear d w'
 go_wp2_with fail
 refine Vac T.out ?_
 rintro e w' ⟨rfl,d⟩;rw[d];clear d w'
 go_wp2_with fail
 refine Vac HX.out ?_
 rintro e w3 ⟨b,Y,ah,an,ao⟩;rw[Y];clear Y
 go_wp2
 exact⟨rfl,PRes.thr (Thr2.before (Thr2.of ⟨b,rfl,ah,an,ao⟩) aj) (.inl rfl)⟩
end Go.Proofs.YtleenphlgbklmaaGreatDoor
