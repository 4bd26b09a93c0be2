import Derived.Test.YtleenphlgbklmaaGreatDoorACTxW
import Derived.Test.YtleenphlgbklmaaGreatDoorACTxG
set_option linter.unusedVariables false
set_option linter.unusedSimpArgs false
set_option maxRecDepth 100000
set_option maxHeartbeats 8000000
open List renaming getD → Vet
namespace Go.Proofs.YtleenphlgbklmaaGreatDoor
open Go.RowKit
open Tryz
variable {w:World}{vb l:List Nat}{n lo hi m:Nat}{v:Value}
theorem Ibf(w:World):(Instr.makeMap 300 none).run prog w= .ok (.map (some w.heap.size)) (w.alloc (.map #[] 0)):=by kernel_rfl
theorem Jo4(w:World)(v:Value)(ad:List Nat)(σ:St)(r:TR)(t:Ty)(K:FuncId)(d:Array Value)(F:List BA)(ok:World->List Nat->Prop)(nm:Nat->Prop)(L:List Nat)(E:SX w ad σ)(J:RV ad r v)(M:Dn σ r t)(T:ok w [])(I:OkK ad w.heap.size ok)(af:∀q,nm q->q<w.heap.size)(short:∀n,(F.getD n ⟨#[]⟩).size<=900)
 (U:∀(b pm i:Nat) (ah:BA) (g:Bool),σ[i]? =some ⟨.vr ah g,none⟩->SFst ⟨ad,σ,w.heap.size,b,pm,.func (.func K) #[] d,F,ok,nm,L⟩ (.nd .vr i) (.mk ⟨#[]⟩ i []))(Z:Jao t []<+:L)(ai:1000*sz t<=1000000000):
  Calls prog 111 #[v,.func (.func K) #[] d] w fun e w'=>∃b pm h es,e= .returned (.pointer (some ⟨b,0,none⟩))/\TX w' ad σ w.heap.size b pm (.func (.func K) #[] d) F ok (Jao t []) h es/\decS h=Ide F t/\Kt ad nm w w':=by
 have m1:=Ibf w;obtain⟨aj,u,rfl⟩:=J.iface;have Y:ad.length=σ.length:=by obtain⟨τ,G,h2⟩:=E;rw[G.len,h2.len]
 have O:∀a,a∈ad->a<w.heap.size:=fun a ha=>by
  obtain⟨τ,G,_⟩:=E;obtain⟨o,h3,_⟩:=G.tb ha;exact Vah h3
 have D:Kept w ((w.alloc (.map #[] 0)).alloc (.cells #[.func (.func K) #[] d,.slice none 0 0,.int .i64 0,.map (some w.heap.size)] 303)):=(Kept.alloc w _).trans (Kept.alloc _ _)
 have V:TX ((w.alloc (.map #[] 0)).alloc (.cells #[.func (.func K) #[] d,.slice none 0 0,.int .i64 0,.map (some w.heap.size)] 303)) ad σ w.heap.size (w.heap.size+1) w.heap.size (.func (.func K) #[] d) F ok [] [] []:=by
  have hb:((w.alloc (.map #[] 0)).alloc (.cells #[.func (.func K) #[] d,.slice none 0 0,.int .i64 0,.map (some w.heap.size)] 303)).heap[w.heap.size+1]? =some (.cells #[.func (.func K) #[] d,.slice none 0 0,.int .i64 0,.map (some w.heap.size)] 303 (0,0)):=by
   have:=Vag (w.alloc (.map #[] 0)) (.cells #[.func (.func K) #[] d,.slice none 0 0,.int .i64 0,.map (some w.heap.size)] 303);simpa using this
  have hm:((w.alloc (.map #[] 0)).alloc (.cells #[.func (.func K) #[] d,.slice none 0 0,.int .i64 0,.map (some w.heap.size)] 303)).heap[w.heap.size]? =some (.map #[] 0):=(Kept.alloc _ _).blk (Vag _ _);refine⟨⟨by omega,⟨.slice none 0 0,hb,VbI _ _ _ _,by simp[Value.ownBlock],by simp[Value.ownBlock]⟩,by decide,by simp⟩,⟨hm,by simp[pvE]⟩,E.keep (fun a o _ ho=>D.blk ho),I _ _ _ T (Kt.of_kept D),D.size,Vau _,O,by simp⟩
 have HT:Hid _:=(Jqe ⟨ad,σ,w.heap.size,w.heap.size+1,w.heap.size,.func (.func K) #[] d,F,ok,nm,L⟩ ⟨I,af,short⟩ Y (U _ _) M).1 _ _ [] [] [] J V Z (by show 0+_<=_;omega) (by show 0+_<=_;omega);clear V E J M T I U O Y Z
 go_enter func111,ntmps111
 go_wp2_with fail
 refine Vac HT.out ?_
 rintro e w1 ⟨rfl,h,es,W,aa,_,_,_,ac⟩;have ae:Hid _:=W;have ag:Hid _:=aa;clear HT W aa
 go_wp2
 go_ret
 refine⟨_,_,h,es,rfl,ae.out,?_,((Kt.of_kept D).trans ac).mono ?_⟩
 .have e:=ag.out;rw[e];apply Vbf
  simp[decS]
 .rintro q hq (z|z)
  .have z:w.heap.size<=q:=z;omega
  .exact z
variable {w':World}
theorem Kept.below'(h:Below w.heap.size w w'):Kept w w':=⟨h.os,h.output,h.size,h.block⟩
theorem Jiy(w:World)(v:Value)(ad:List Nat)(σ:St)(r:TR)(t:Ty)(K:FuncId)(h:Array Value)(F:List BA)(ok:World->List Nat->Prop)(nm:Nat->Prop)(L:List Nat)(T:SX w ad σ)(W:RV ad r v)(D:Dn σ r t)(E:ok w [])(U:OkK ad w.heap.size ok)(ac:∀q,nm q->q<w.heap.size)(short:∀n,(F.getD n ⟨#[]⟩).size<=900)
 (I:∀(b pm i:Nat) (ae:BA) (g:Bool),σ[i]? =some ⟨.vr ae g,none⟩->SFst ⟨ad,σ,w.heap.size,b,pm,.func (.func K) #[] h,F,ok,nm,L⟩ (.nd .vr i) (.mk ⟨#[]⟩ i []))(M:Jao t []<+:L)(aa:1000*sz t<=1000000000):
  Calls prog 81 #[v,.func (.func K) #[] h] w fun e w'=>e= .returned (.string (Ide F t))/\SX w' ad σ/\Kt ad nm w w':=by
 have O:Hid _:=Jo4 w v ad σ r t K h F ok nm L T W D E U ac short I M aa;clear T D E U I M;obtain⟨af,u,rfl⟩:=W.iface
 go_enter func81,ntmps81
 go_wp2_with fail
 refine Vac O.out ?_
 rintro e w1 ⟨b,pm,sp,es,rfl,d,G,Z⟩;have V:Hid _:=JhR d.tl;rw[G]at V;have HT:Hid _:=d;clear O d G
 go_wp2_with fail
 refine Vac V.out ?_
 rintro e w2 ⟨rfl,Y⟩;have J:=Kept.below' Y
 go_wp2
 go_ret
 exact⟨rfl,HT.out.st.keep (fun _ _ _ ho=>J.blk ho),Z.trans (Kt.of_kept J)⟩
theorem VM.vblk{mb:Nat}{names:List BA}(h:VM w mb names vb):∀c,c∈vb->VBlk w c:=by
 intro c D;obtain⟨j,d,rfl⟩:=Vbk D;have:=h.vr j (h.len▸d);have e:vb.getD j 0=vb[j]:=by simp[Vet,d]
 rw[e]at this;exact⟨_,this⟩
def NB(w:World)(vb:List Nat)(names:List BA):Prop:=vb.length=names.length/\∀j,j<names.length->w.heap[vb.getD j 0]? =some (.cells #[.nilIface,.string (names.getD j ⟨#[]⟩),.bool false] 221 (0,0))
theorem VM.nodup{mb:Nat}{names:List BA}(h:VM w mb names vb)(U:names.Nodup):vb.Nodup:=by
 refine VaF.2 ?_
 intro i j hi D O e;have d:=h.vr i (h.len▸hi);have I:=h.vr j (h.len▸D);have L:vb.getD i 0=vb[i]:=by simp[Vet,hi]
 have T:vb.getD j 0=vb[j]:=by simp[Vet,D]
 rw[L,e]at d;have G:i<names.length:=h.len▸hi;have E:j<names.length:=h.len▸D;have M:names.getD i ⟨#[]⟩=names[i]:=by simp[Vet,G]
 have J:names.getD j ⟨#[]⟩=names[j]:=by simp[Vet,E]
 rw[T]at I;rw[I,M,J]at d;simp at d;exact(VaF.1 U) i j G E O d.symm
theorem JmI(w:World)(nb mb b:Nat)(l:List Nat)(L:w.cell? ⟨nb,0,none⟩=some (.map (some mb)))(h:NM w mb l)(E:VBk w b)(j:Nat)(D:l.findIdx? (fun x=>b==x)=some j)(I:j<260):
  Calls prog 113 #[.pointer (some ⟨b,0,none⟩),.pointer (some ⟨nb,0,none⟩)] w fun e w'=>e= .returned (.string (letM j))/\w'=w:=by
 have d:=JgP w mb b l h E;rw[D]at d;simp only at d;have J:Hid _:=Jfe j I w;clear h D E
 go_enter func113,ntmps113
 go_wp2_with (go_at_call 114;refine Vac J.out ?_;rintro e w' ⟨rfl,G⟩;rw[G];clear G w')
 go_ret
 exact⟨rfl,rfl⟩
theorem NM.put{mb b:Nat}(h:NM w mb l)(E:VBk w b):NM (Idd w mb (.map (Jbt (l++ [b]) 0).toArray (l.length+1))) mb (l++ [b]):=by
 have D:∀c,VBk w c->VBk (Idd w mb (.map (Jbt (l++ [b]) 0).toArray (l.length+1))) c:=fun c ⟨s,d⟩=>⟨s,by
  rw[Jau _ _ _ _ (fun z=>by rw[z,h.mp]at d;cases d)];exact d⟩
 refine⟨?_,?_⟩
 .rw[JaV _ _ _ (Vah h.mp)];simp
 .intro c d;simp at d
  rcases d with d|rfl
  .exact D c (h.vr c d)
  .exact D c E
theorem JmH(w:World)(nb mb b:Nat)(l:List Nat)(U:w.cell? ⟨nb,0,none⟩=some (.map (some mb)))(h:NM w mb l)(d:VBk w b)(D:l.findIdx? (fun x=>b==x)=none)(J:l.length<260):
  Calls prog 113 #[.pointer (some ⟨b,0,none⟩),.pointer (some ⟨nb,0,none⟩)] w fun e w'=>e= .returned (.string (letM l.length))/\NM w' mb (l++ [b])/\Kp (·=mb) w w':=by
 have G:=JgP w mb b l h d;rw[D]at G;simp only at G;have V:=Jm3 w mb b l h d D;have E:=h.mp;have T:(Jbt l 0).toArray.size=l.length:=by simp[JdW]
 have W:(Builtin.len_ #[215] 3 #[.map (some mb)]).run prog w= .ok (.int .i64 (l.length:Int)) w:=by
  simp[Builtin.len_,VaM VdZ,VaQ E,Result.andThen,JdW,goInt]
 have O:Hid _:=h.put d;have M:Hid _:=Jet w mb (.map (Jbt (l++ [b]) 0).toArray (l.length+1));have L:Hid _:=Jfe l.length J (Idd w mb (.map (Jbt (l++ [b]) 0).toArray (l.length+1)));clear h D d E T
 go_enter func113,ntmps113
 go_wp2_with (go_at_call 114;refine Vac L.out ?_;rintro e w' ⟨rfl,I⟩;rw[I];clear I w')
 go_ret
 exact⟨rfl,O.out,M.out⟩
theorem Ibe(w:World):(Instr.makeMap 215 none).run prog w= .ok (.map (some w.heap.size)) (w.alloc (.map #[] 0)):=by kernel_rfl
theorem Jiq(w:World):Calls prog 82 #[] w fun e w'=>∃nb mb,e= .returned (.func (.func 113) #[] #[.pointer (some ⟨nb,0,none⟩)])/\w'.heap[nb]? =some (.cells #[.map (some mb)] 215 (0,0))/\NM w' mb []/\Kp (fun _=>False) w w'/\w.heap.size<=mb:=by
 have h:=Ibe w
 go_enter func82,ntmps82
 go_wp2
 go_ret
 have d:Kp (fun _=>False) (w.alloc (.map #[] 0)) ((w.alloc (.map #[] 0)).alloc (.cells #[.map (some w.heap.size)] 215)):=(Kp.refl _ _).alloc _;refine⟨w.heap.size+1,w.heap.size,rfl,?_,⟨d.blk (Vag _ _) (fun z=>z),by simp⟩,((Kp.refl _ w).alloc _).trans d,Vau _⟩
 have:=Vag (w.alloc (.map #[] 0)) (.cells #[.map (some w.heap.size)] 215);simpa using this
variable {j:Nat}
theorem JoB{L:List Nat}(E:l<+:L)(D:L.Nodup)(h:l[j]? =some n):(cnN L).getD n ⟨#[]⟩=letM j:=by
 have I:j<l.length:=(Vae.1 h).1
 have d:L[j]? =some n:=by
  obtain⟨r,rfl⟩:=E;rw[Vak I];exact h
 have G:=(Vae.1 d).1;have:=JoA L (mxL L) D (fun x J=>Jht J) L.length (Vau _) j G;have e:L.getD j 0=n:=by simp[Vet,d]
 rw[e]at this;exact this
theorem JoV(f:Nat->Nat)(n:Nat)(l:List Nat)(d:∀x,x∈l->f n=f x->n=x):(l.map f).findIdx? (fun x=>f n==x)=l.findIdx? (fun x=>n==x):=by
 induction l with
 |nil=>rfl
 |cons a l h=>
  have hi:=h (fun x D=>d x (by simp[D]))
  have e:(f n==f a)=(n==a):=by
   rw[Vb7,Vbs,Vbs];exact⟨fun z=>d a List.mem_cons_self z,fun z=>by rw[z]⟩
  simp only[VaP,List.findIdx?_cons,hi,e]
theorem Jl5(h:l.findIdx? (fun x=>n==x)=some j):l[j]? =some n:=by
 obtain⟨d,e,_⟩:=VaZ.1 h;rw[Vav d];have:=Vbs.1 e;rw[<-this]
theorem Jl4(h:l.findIdx? (fun x=>n==x)=none): ¬n∈l:=by
 intro d;have:=(Vbv.1 h) n d;simp at this
structure NOk(ad:List Nat)(σ:St)(B nb mb:Nat)(w:World)(l:List Nat):Prop where
 nbc:w.heap[nb]? =some (.cells #[.map (some mb)] 215 (0,0))
 nbB:nb<B
 mbB:mb<B
 mp:w.heap[mb]? =some (.map (Jbt (l.map fun n=>ad.getD n 0) 0).toArray l.length)
 vr:∀n,n∈l->∃nm g s,σ[n]? =some ⟨.vr nm g,s⟩
theorem NOk.okk(ad:List Nat)(σ:St)(B nb mb:Nat):OkK ad B (NOk ad σ B nb mb):=by
 intro w w' l h k;refine⟨k.blk _ _ h.nbc (fun z=>by have z:B<=nb:=z;have:=h.nbB;omega) ?_,h.nbB,h.mbB,k.blk _ _ h.mp (fun z=>by have z:B<=mb:=z;have:=h.mbB;omega) ?_,h.vr⟩
 .rintro⟨D,e,f,d,ht⟩;simp only[VaT]at d;obtain⟨_,rfl,_⟩:=d
  rcases ht with e|e|e|e<;>cases e
 .rintro⟨D,e,f,d,_⟩
  cases d
variable {nm:BA}{g:Bool}{s:Option TR}
theorem SX.vbk{ad:List Nat}{σ:St}(h:SX w ad σ)(L:σ[n]? =some ⟨.vr nm g,s⟩):∃c,ad[n]? =some c/\VBk w c:=by
 obtain⟨τ,D,G⟩:=h;obtain⟨M,E,_⟩:=G.kk n _ _ L;have d:=(Vae.1 E).1;have d:n<ad.length:=by rw[D.len];exact d
 obtain⟨sv,o,I,_,J⟩:=D.blk n _ _ (ad[n]) E (by simp);refine⟨ad[n],by simp,#[sv,.string nm,.bool g],?_⟩
 rw[I];exact VbH some J
def WO(ad:List Nat)(σ:St)(B b pm nb mb:Nat)(L:List Nat):WE:=⟨ad,σ,B,b,pm,.func (.func 113) #[] #[.pointer (some ⟨nb,0,none⟩)],cnN L,NOk ad σ B nb mb,(·=mb),L⟩
section
variable {ad:List Nat}{σ:St}{B b pm nb mb:Nat}{L:List Nat}
variable {es:List (TR×Nat×Nat)}
theorem Jmu{sp:List Sp}(h:(WO ad σ B b pm nb mb L).TX w l sp es)(n c:Nat)(nm:BA)(g:Bool)(s:Option TR)(hn:σ[n]? =some ⟨.vr nm g,s⟩)(Z:ad[n]? =some c)(hL:L.length<=260)(hp:Jao (.mk ⟨#[]⟩ n []) l<+:L):
  Calls prog 113 #[.pointer (some ⟨c,0,none⟩),.pointer (some ⟨nb,0,none⟩)] w fun e w'=>∃j,e= .returned (.string (letM j))/\(WO ad σ B b pm nb mb L).TX w' (Jao (.mk ⟨#[]⟩ n []) l) sp es/\Kt ad (SN B (·=mb)) w w'/\(Jao (.mk ⟨#[]⟩ n []) l)[j]? =some n:=by
 have D:NOk ad σ B nb mb w l:=h.ns;have O:=Vas hp.length_le hL;have hl:l<+:Jao (.mk ⟨#[]⟩ n []) l:=Jca (m:=n+1) (.var n (by omega)) l
 have gd:∀x,x∈l->∃q,ad[x]? =some q/\VBk w q:=fun x d=>by
  obtain⟨nm,g,s,d⟩:=D.vr x d;exact SX.vbk h.st d
 have Y:ad.getD n 0=c:=by simp[Vet,Z]
 have aj:SX w ad σ:=h.st;obtain⟨τ,ac,_⟩:=aj
 have ah:∀x,x∈l->ad.getD n 0=ad.getD x 0->n=x:=fun x d e=>by
  obtain⟨q,E,_⟩:=gd x d;have e2:ad.getD x 0=q:=by simp[Vet,E]
  rw[Y,e2]at e;subst e;exact JcB ac.inj Z E
 have hV:VBk w c:=by
  obtain⟨c',G,h2⟩:=SX.vbk h.st hn;have G:ad[n]? =some c':=G;rw[Z]at G;simp at G;subst G;exact h2
 have ae:NM w mb (l.map fun n=>ad.getD n 0):=⟨by rw[D.mp];simp,fun q E=>by
  obtain⟨x,d,rfl⟩:=Vbj.1 E;obtain⟨q,E,T⟩:=gd x d;have:ad.getD x 0=q:=by simp[Vet,E]
  rw[this];exact T⟩
 have aa:w.cell? ⟨nb,0,none⟩=some (.map (some mb)):=by simp[World.cell?,D.nbc]
 have hi:=JoV (fun n=>ad.getD n 0) n l ah;simp only[Y]at hi;have I:=JaZ n l
 cases M:l.findIdx? (fun x=>n==x)with
 |some j=>
  have U:=Jl5 M;have W:inB l n=true:=VaX.2 (Vbn U);have al:=(Vae.1 U).1;rw[W]at I;simp only[Va0]at I;rw[I]at O⊢;refine(JmI w nb mb _ _ aa ae hV j (hi.trans M) (by omega)).mono ?_
  rintro e w' ⟨rfl,ai⟩;subst ai;exact⟨j,rfl,h,Kt.refl _ _ _,U⟩
 |none=>
  have W:inB l n=false:=by
   rw[Vbm];exact fun z=>Jl4 M (VaX.1 z)
  rw[W]at I;simp only[Vao,VaS]at I;rw[I]at O hl⊢;simp at O;refine(JmH w nb mb _ _ aa ae hV (hi.trans M) (by simp;omega)).mono ?_
  rintro e w' ⟨rfl,hM,J⟩;have af:=D.mp;have hB:=h.bs;have V:Kt ad (·=mb) w w':=Kt.of_kp J
  have ag:nb≠mb:=fun z=>by
   have a:=D.nbc;rw[z,af]at a
   cases a
  refine⟨l.length,by simp,⟨TL.kt h.tl V (fun q E=>by rw[show q=mb from E];exact D.mbB),TMp.kt h.mp V (fun z=>by have:=h.pB;have z:pm=mb:=z;have:=D.mbB;have:B<=pm:=h.pB;omega),h.st.keep (fun a o ha T=>J.blk T (fun z=> ?_)),⟨J.blk D.nbc ag,D.nbB,D.mbB,?_,?_⟩,Vas hB J.size,h.pB,h.adB,?_⟩,V.mono (fun q _ E=> .inr E),by simp⟩
  .obtain⟨o',G,cs,ty,f,rfl,_⟩:=ac.tb ha;rw[show a=mb from z,af]at G
   cases G
  .have:=hM.mp;rw[this,Vbu];simp only[VaP,Vbb,Y,Vap,Vbe,VaY,Vbp]
  .intro x d;simp at d
   rcases d with d|rfl
   .exact D.vr x d
   .exact⟨nm,g,s,hn⟩
  .intro e he;obtain⟨ak,q1,q2,q3,q4,q5⟩:=h.pcs e he;exact⟨ak,q1,q2,q3,q4,JdQ q1.wt l _ (by rw[q5];exact hl)⟩
end
theorem Jmg(n:Nat):0<(letM n).size:=by
 unfold letM
 split
 .simp[JaG,ByteArray.size]
 .simp[JaG,ByteArray.size]
theorem JjU(ad:List Nat)(σ:St)(B b pm nb mb:Nat)(L:List Nat)(hE:(WO ad σ B b pm nb mb L).Ok)(U:L.Nodup)(Z:L.length<=260)(n:Nat)(nm:BA)(g:Bool)(M:σ[n]? =some ⟨.vr nm g,none⟩):SFst (WO ad σ B b pm nb mb L) (.nd .vr n) (.mk ⟨#[]⟩ n []):=by
 intro w v l d es hv h G hn hl;have aa:sz (.mk ⟨#[]⟩ n [])=1:=by simp[sz,szs]
 rw[aa]at hn hl⊢;obtain⟨c,E,rfl⟩:=hv;have E:ad[n]? =some c:=E;rw[show Kd.vr.tp=216 from rfl];show Calls prog 184 #[.pointer (some ⟨b,0,none⟩),_] w _;have J:Hid _:=Jmu h n c nm g none M E Z G;have O:Hid (∀(w':World) (j:Nat),(WO ad σ B b pm nb mb L).TX w' (Jao (.mk ⟨#[]⟩ n []) l) d es->Calls prog 214 #[.pointer (some ⟨b,0,none⟩),.string (letM j)] w' fun e T=>e= .returned (.tuple #[])/\(WO ad σ B b pm nb mb L).TX T (Jao (.mk ⟨#[]⟩ n []) l) (d++ [.tk (letM j)]) es/\Kt ad (SN B (·=mb)) w' T):=fun w' j D=>Jbe _ hE w' _ d es D (letM j) (Jmg j) (by have:=Jdi j;omega) (by omega)
 have t1:=Ib3 (.pointer (some ⟨c,0,none⟩)) w;have t2:=Ib6 (.pointer (some ⟨c,0,none⟩)) w;have c0:w.cell? ⟨b,0,none⟩=some (.func (.func 113) #[] #[.pointer (some ⟨nb,0,none⟩)]):=h.tl.c.1;have W:Hid (∀j,(Jao (.mk ⟨#[]⟩ n []) l)[j]? =some n->Ide (cnN L) (.mk ⟨#[]⟩ n [])=letM j):=fun j I=>(Jbb _ n).trans (JoB G U I)
 clear h G M E
 go_enter Vda,VcV
 go_wp2_with fail
 refine Vac J.out ?_
 rintro e w2 ⟨j,rfl,D,V,I⟩;have Y:Hid _:=O.out w2 j D;clear O J D
 go_wp2_with fail
 refine Vac Y.out ?_
 rintro e w3 ⟨rfl,ac,ae⟩
 go_wp2
 go_end0
 have e:=W.out j I;refine⟨rfl,d++ [.tk (letM j)],es,ac,?_,?_,by simp,fun e he=> .inl he,V.trans ae⟩
 .show _=decS d++Ide (cnN L) _;rw[e,Jbv]
 .rw[Jaj];have:=Jdi j;omega
def vrs(names:List BA):St:=names.map fun n=>⟨.vr n false,none⟩
def Idb(vs:Nat):Ty->St->TR×St
 | .mk kd n kids,σ=>
  if kd.data.toList== []then(.nd .vr (vs+n),σ)
  else if kd.data.toList==(⟨#[105,110,116]⟩:BA).data.toList then(.int,σ)
  else if kd.data.toList==(⟨#[98,111,111,108]⟩:BA).data.toList then(.bool,σ)
  else match kids with
   | [a]=>
    let p:=Idb vs a σ
    (.nd .ls p.2.length,p.2++ [⟨.ls p.1,none⟩])
   | [a,c]=>
    let p:=Idb vs a σ
    let q:=Idb vs c p.2
    if kd.data.toList==(⟨#[112,97,105,114]⟩:BA).data.toList then(.nd .pr q.2.length,q.2++ [⟨.pr p.1 q.1,none⟩])else(.nd .ar q.2.length,q.2++ [⟨.ar p.1 q.1,none⟩])
   |_=>(.int,σ)
theorem JcM(vs n:Nat)(σ:St):Idb vs (.mk ⟨#[]⟩ n []) σ=(.nd .vr (vs+n),σ):=by simp[Idb]
theorem JcL(vs:Nat)(σ:St):Idb vs (.mk ⟨#[105,110,116]⟩ 0 []) σ=(.int,σ):=by simp[Idb]
theorem JbW(vs:Nat)(σ:St):Idb vs (.mk ⟨#[98,111,111,108]⟩ 0 []) σ=(.bool,σ):=by simp[Idb]
theorem JbX(vs:Nat)(a:Ty)(σ:St):Idb vs (.mk ⟨#[108,105,115,116]⟩ 0 [a]) σ=(.nd .ls (Idb vs a σ).2.length,(Idb vs a σ).2++ [⟨.ls (Idb vs a σ).1,none⟩]):=by rw[Idb];simp
theorem JbY(vs:Nat)(a c:Ty)(σ:St):Idb vs (.mk ⟨#[112,97,105,114]⟩ 0 [a,c]) σ=(.nd .pr (Idb vs c (Idb vs a σ).2).2.length,(Idb vs c (Idb vs a σ).2).2++ [⟨.pr (Idb vs a σ).1 (Idb vs c (Idb vs a σ).2).1,none⟩]):=by rw[Idb];simp
theorem Jdy(vs:Nat)(a c:Ty)(σ:St):Idb vs (.mk ⟨#[102,117,110]⟩ 0 [a,c]) σ=(.nd .ar (Idb vs c (Idb vs a σ).2).2.length,(Idb vs c (Idb vs a σ).2).2++ [⟨.ar (Idb vs a σ).1 (Idb vs c (Idb vs a σ).2).1,none⟩]):=by rw[Idb];simp
variable {τ:St}{nk:NK}{o:Obj}
theorem SW.add{ad:List Nat}(h:SW w ad τ){b:Nat}(M: ¬b∈ad)(E:w.heap[b]? =some o)(U:NBk ad nk .nilIface o):SW w (ad++ [b]) (τ++ [⟨nk,none⟩]):=by
 refine⟨by simp[h.len],?_,?_⟩
 .refine VbU.2 ⟨h.inj,by simp,?_⟩
  intro x T y D e;simp at D;subst D;subst e;exact M T
 .intro i mk s c hi d
  by_cases e:i<τ.length
  .rw[Vak e]at hi;rw[Vak (by rw[h.len];exact e)]at d;obtain⟨sv,I,J,G,L⟩:=h.blk i mk s c hi d;exact⟨sv,I,J,G.up _,L.up _⟩
  .have O:i=τ.length:=by
    have:=(Vae.1 hi).1;simp at this;omega
   subst O;rw[<-h.len]at d;simp at hi d;obtain⟨rfl,rfl⟩:=hi;subst d;exact⟨.nilIface,o,E,rfl,U.up _⟩
theorem SW.vars(names:List BA):∀{ad:List Nat} {τ:St} {vb:List Nat},SW w ad τ->vb.length=names.length->(∀j,j<names.length->w.heap[vb.getD j 0]? =some (.cells #[.nilIface,.string (names.getD j ⟨#[]⟩),.bool false] 221 (0,0)))->vb.Nodup->(∀c,c∈vb->¬c∈ad)->SW w (ad++vb) (τ++vrs names):=by
 induction names with
 |nil=>
  intro ad τ vb h d _ _ _;have:vb= []:=VdL (by simpa using d);subst this;simpa[vrs]using h
 |cons n names J=>
  intro ad τ vb h d E D I
  cases vb with
  |nil=>simp at d
  |cons b vb=>
   have M:=E 0 (by simp);have L:=h.add (I b (by simp)) (nk:= .vr n false) M rfl
   have:=J (vb:=vb) L (by simpa using d) (fun j O=>by
    have:=E (j+1) (by simp;omega);simpa using this) (Vdj.1 D).2 (fun c G z=>by
    simp at z
    rcases z with z|z
    .exact I c (by simp[G]) z
    .subst z;exact(Vdj.1 D).1 G)
   simpa[vrs,Val]using this
variable {t:Ty}
theorem SW.adopt(ae:PTyR w vb lo hi t v):∀(vs:Nat) (ad:List Nat) (τ:St),SW w ad τ->(∀n b,vb[n]? =some b->ad[vs+n]? =some b)->(∀c,c∈ad->(∃Y f,w.heap[c]? =some (.cells Y 221 f))\/c<lo)->
  ∃bl,SW w (ad++bl) (Idb vs t τ).2/\RV (ad++bl) (Idb vs t τ).1 v/\(∀c,c∈bl->lo<=c/\c<hi):=by
 induction ae with
 |var n b lo hi Z h=>
  intro vs ad τ I D E;rw[JcM];exact⟨[],by simpa using I,⟨b,by simpa using D n b h,rfl⟩,by simp⟩
 |base kd lo hi Z hk=>
  intro vs ad τ I D E
  rcases hk with rfl|rfl
  .rw[JcL];exact⟨[],by simpa using I,rfl,by simp⟩
  .rw[JbW];exact⟨[],by simpa using I,rfl,by simp⟩
 |list a b p lo m hi h U Z h2 T=>
  intro vs ad τ I D E;obtain⟨bl,L,r1,G⟩:=T vs ad τ I D E;have hm:=U.le;rw[JbX]
  have V: ¬b∈ad++bl:=fun z=>by
   simp at z
   rcases z with z|z
   .rcases E b z with⟨Y,f,e⟩|e
    .rw[h]at e;simp at e
    .omega
   .have:=G b z;omega
  refine⟨bl++ [b],?_,?_,?_⟩
  .rw[<-Val];exact L.add V h ⟨p,r1,rfl⟩
  .refine⟨b,?_,rfl⟩
   rw[<-Val,<-L.len];simp
  .intro c J;simp at J
   rcases J with J|rfl
   .have:=G c J;omega
   .omega
 |pair a c b p q lo m k hi h U J Z h2 T aa=>
  intro vs ad τ I D E;obtain⟨bl,L,r1,G⟩:=T vs ad τ I D E;have hm:=U.le;have ac:=J.le
  obtain⟨O,M,r2,W⟩:=aa vs (ad++bl) _ L (fun n b h=>by rw[Vak (Vae.1 (D n b h)).1];exact D n b h) (fun x d=>by
   simp at d
   rcases d with d|d
   .rcases E x d with e|e
    .exact .inl e
    .exact .inr (by omega)
   .exact .inr (G x d).2)
  rw[JbY]
  have V: ¬b∈ad++bl++O:=fun z=>by
   simp at z
   rcases z with z|z|z
   .rcases E b z with⟨Y,f,e⟩|e
    .rw[h]at e;simp at e
    .omega
   .have:=G b z;omega
   .have:=W b z;omega
  refine⟨bl++O++ [b],?_,?_,?_⟩
  .have:=M.add V h (nk:= .pr (Idb vs a τ).1 (Idb vs c (Idb vs a τ).2).1) ⟨p,q,r1.up _,r2,rfl⟩;simpa[Val]using this
  .refine⟨b,?_,rfl⟩
   rw[<-M.len];simp[Val]
  .intro x d;simp at d
   rcases d with d|d|rfl
   .have:=G x d;omega
   .have:=W x d;omega
   .omega
 |fn a c b p q lo m k hi h U J Z h2 T aa=>
  intro vs ad τ I D E;obtain⟨bl,L,r1,G⟩:=T vs ad τ I D E;have hm:=U.le;have ac:=J.le
  obtain⟨O,M,r2,W⟩:=aa vs (ad++bl) _ L (fun n b h=>by rw[Vak (Vae.1 (D n b h)).1];exact D n b h) (fun x d=>by
   simp at d
   rcases d with d|d
   .rcases E x d with e|e
    .exact .inl e
    .exact .inr (by omega)
   .exact .inr (G x d).2)
  rw[Jdy]
  have V: ¬b∈ad++bl++O:=fun z=>by
   simp at z
   rcases z with z|z|z
   .rcases E b z with⟨Y,f,e⟩|e
    .rw[h]at e;simp at e
    .omega
   .have:=G b z;omega
   .have:=W b z;omega
  refine⟨bl++O++ [b],?_,?_,?_⟩
  .have:=M.add V h (nk:= .ar (Idb vs a τ).1 (Idb vs c (Idb vs a τ).2).1) ⟨p,q,r1.up _,r2,rfl⟩;simpa[Val]using this
  .refine⟨b,?_,rfl⟩
   rw[<-M.len];simp[Val]
  .intro x d;simp at d
   rcases d with d|d|rfl
   .have:=G x d;omega
   .have:=W x d;omega
   .omega
mutual
def JaY(vs:Nat):Ty->Ty
 | .mk kd n kids=>if kd.data.toList== []then .mk kd (vs+n) []else .mk kd n (Jc4 vs kids)
def Jc4(vs:Nat):List Ty->List Ty
 | []=> []
 |t::ts=>JaY vs t::Jc4 vs ts
end
theorem Jfm(vs n:Nat):JaY vs (.mk ⟨#[]⟩ n [])= .mk ⟨#[]⟩ (vs+n) []:=by simp[JaY]
theorem Jfl(vs:Nat):JaY vs (.mk ⟨#[105,110,116]⟩ 0 [])= .mk ⟨#[105,110,116]⟩ 0 []:=by simp[JaY,Jc4]
theorem JeL(vs:Nat):JaY vs (.mk ⟨#[98,111,111,108]⟩ 0 [])= .mk ⟨#[98,111,111,108]⟩ 0 []:=by simp[JaY,Jc4]
theorem JeM(vs:Nat)(a:Ty):JaY vs (.mk ⟨#[108,105,115,116]⟩ 0 [a])= .mk ⟨#[108,105,115,116]⟩ 0 [JaY vs a]:=by simp[JaY,Jc4]
theorem JeN(vs:Nat)(a c:Ty):JaY vs (.mk ⟨#[112,97,105,114]⟩ 0 [a,c])= .mk ⟨#[112,97,105,114]⟩ 0 [JaY vs a,JaY vs c]:=by simp[JaY,Jc4]
theorem JgU(vs:Nat)(a c:Ty):JaY vs (.mk ⟨#[102,117,110]⟩ 0 [a,c])= .mk ⟨#[102,117,110]⟩ 0 [JaY vs a,JaY vs c]:=by simp[JaY,Jc4]
theorem JeO(h:WT m t):JaY 0 t=t:=by
 induction h with
 |var n E=>rw[Jfm,Vby]
 |int=>exact Jfl 0
 |bool=>exact JeL 0
 |list a _ d=>rw[JeM,d]
 |pair a b _ _ d D=>rw[JeN,d,D]
 |fn a b _ _ d D=>rw[JgU,d,D]
theorem Jd1(vs:Nat)(h:WT m t):∀τ,∃u,(Idb vs t τ).2=τ++u:=by
 induction h with
 |var n J=>intro τ;rw[JcM];exact⟨[],by simp⟩
 |int=>intro τ;rw[JcL];exact⟨[],by simp⟩
 |bool=>intro τ;rw[JbW];exact⟨[],by simp⟩
 |list a _ d=>
  intro τ;obtain⟨u,D⟩:=d τ;rw[JbX];exact⟨u++ [⟨.ls (Idb vs a τ).1,none⟩],by rw[<-Val,<-D]⟩
 |pair a b _ _ d I=>
  intro τ;obtain⟨u,D⟩:=d τ;obtain⟨E,G⟩:=I (Idb vs a τ).2;rw[JbY];exact⟨u++E++ [⟨.pr (Idb vs a τ).1 (Idb vs b (Idb vs a τ).2).1,none⟩],by rw[<-Val,<-Val,<-D,<-G]⟩
 |fn a b _ _ d I=>
  intro τ;obtain⟨u,D⟩:=d τ;obtain⟨E,G⟩:=I (Idb vs a τ).2;rw[Jdy];exact⟨u++E++ [⟨.ar (Idb vs a τ).1 (Idb vs b (Idb vs a τ).2).1,none⟩],by rw[<-Val,<-Val,<-D,<-G]⟩
variable {i:Nat}{x:Nd}
theorem JhK{σ:St}(h:σ[i]? =some x)(u:St):(σ++u)[i]? =some x:=by
 rw[Vak (Vae.1 h).1];exact h
theorem Dn.up{σ:St}{r:TR}(h:Dn σ r t)(u:St):Dn (σ++u) r t:=by
 induction h with
 |int r h=>exact .int r (h.up u)
 |bool r h=>exact .bool r (h.up u)
 |var r i h=>exact .var r i (h.up u)
 |list r i x a h d _ D=>exact .list r i x a (h.up u) (JhK d u) D
 |pair r i x y a c h d _ _ D E=>exact .pair r i x y a c (h.up u) (JhK d u) D E
 |fn r i x y a c h d _ _ D E=>exact .fn r i x y a c (h.up u) (JhK d u) D E
theorem Dn.addT(vs:Nat)(h:WT m t):∀τ:St,(∀n,n<m->∃nm g,τ[vs+n]? =some ⟨.vr nm g,none⟩)->Dn (Idb vs t τ).2 (Idb vs t τ).1 (JaY vs t):=by
 induction h with
 |var n G=>
  intro τ d;rw[JcM,Jfm];obtain⟨nm,g,e⟩:=d n G;exact .var _ _ (.root (vs+n) (.vr nm g) e)
 |int=>intro τ d;rw[JcL,Jfl];exact .int _ .int
 |bool=>intro τ d;rw[JbW,JeL];exact .bool _ .bool
 |list a I D=>
  intro τ d;have E:=D τ d;rw[JbX,JeM];have e:((Idb vs a τ).2++ [(⟨.ls (Idb vs a τ).1,none⟩:Nd)])[(Idb vs a τ).2.length]? =some ⟨.ls (Idb vs a τ).1,none⟩:=by simp
  exact .list _ _ _ _ (.root _ (.ls _) e) e (E.up _)
 |pair a b I T D M=>
  intro τ d;have E:=D τ d;obtain⟨u,O⟩:=Jd1 vs I τ
  have J:=M (Idb vs a τ).2 (fun n G=>by
   obtain⟨nm,g,e⟩:=d n G;exact⟨nm,g,by rw[O];exact JhK e u⟩)
  obtain⟨L,U⟩:=Jd1 vs T (Idb vs a τ).2;rw[JbY,JeN];have e:((Idb vs b (Idb vs a τ).2).2++ [(⟨.pr (Idb vs a τ).1 (Idb vs b (Idb vs a τ).2).1,none⟩:Nd)])[(Idb vs b (Idb vs a τ).2).2.length]? =some ⟨.pr (Idb vs a τ).1 (Idb vs b (Idb vs a τ).2).1,none⟩:=by simp
  refine .pair _ _ _ _ _ _ (.root _ (.pr _ _) e) e ?_ (J.up _)
  have:=(E.up L).up [(⟨.pr (Idb vs a τ).1 (Idb vs b (Idb vs a τ).2).1,none⟩:Nd)];rw[<-U]at this;exact this
 |fn a b I T D M=>
  intro τ d;have E:=D τ d;obtain⟨u,O⟩:=Jd1 vs I τ
  have J:=M (Idb vs a τ).2 (fun n G=>by
   obtain⟨nm,g,e⟩:=d n G;exact⟨nm,g,by rw[O];exact JhK e u⟩)
  obtain⟨L,U⟩:=Jd1 vs T (Idb vs a τ).2;rw[Jdy,JgU];have e:((Idb vs b (Idb vs a τ).2).2++ [(⟨.ar (Idb vs a τ).1 (Idb vs b (Idb vs a τ).2).1,none⟩:Nd)])[(Idb vs b (Idb vs a τ).2).2.length]? =some ⟨.ar (Idb vs a τ).1 (Idb vs b (Idb vs a τ).2).1,none⟩:=by simp
  refine .fn _ _ _ _ _ _ (.root _ (.ar _ _) e) e ?_ (J.up _)
  have:=(E.up L).up [(⟨.ar (Idb vs a τ).1 (Idb vs b (Idb vs a τ).2).1,none⟩:Nd)];rw[<-U]at this;exact this
theorem PTyR.wt(h:PTyR w vb lo hi t v):WT vb.length t:=by
 induction h with
 |var n b lo hi _ D=>exact .var n (Vae.1 D).1
 |base kd lo hi _ I=>rcases I with rfl|rfl;exact .int;exact .bool
 |list a b p lo m hi D G _ _ d=>exact .list a d
 |pair a c b p q lo m k hi D G J _ _ d E=>exact .pair a c d E
 |fn a c b p q lo m k hi D G J _ _ d E=>exact .fn a c d E
theorem Jjc{names:List BA}(h:PTyR w vb lo hi t v)(D:NB w vb names)(I:vb.Nodup)(M:∀c,c∈vb->lo<=c):∃ad,(∀c,c∈ad->lo<=c)/\SX w ad (Idb 0 t (vrs names)).2/\RV ad (Idb 0 t (vrs names)).1 v/\Dn (Idb 0 t (vrs names)).2 (Idb 0 t (vrs names)).1 t:=by
 have O:SW w [] []:=⟨rfl,VcB,fun i nk s b hi=>by simp at hi⟩
 have G:=SW.vars names O D.1 D.2 I (fun c _ z=>by simp at z);simp only[VaK]at G
 obtain⟨bl,T,r1,J⟩:=SW.adopt h 0 vb (vrs names) G (fun n b U=>by simpa using U) (fun c d=> .inl (by
  obtain⟨j,E,rfl⟩:=Vbk d;have:=D.2 j (D.1▸E);have e:vb.getD j 0=vb[j]:=by simp[Vet,E]
  rw[e]at this;exact⟨_,_,this⟩))
 refine⟨vb++bl,fun c d=> ?_,⟨_,T,Ev.refl _⟩,r1,?_⟩
 .simp at d
  rcases d with d|d
  .exact M c d
  .exact(J c d).1
 have:=Dn.addT 0 h.wt (vrs names) (fun n L=>by
  refine⟨names.getD n ⟨#[]⟩,false,?_⟩
  have:n<names.length:=D.1▸L;simp[vrs,this])
 rw[JeO h.wt]at this;exact this
theorem JjD(E:List Nat)(m q:Nat):∀x,x∈cnA E m q->x.size<=900:=by
 induction q with
 |zero=>
  intro x d;simp[cnA]at d;rw[d.2];decide
 |succ q D=>
  intro x d
  rcases List.mem_or_eq_of_mem_set d with h|h
  .exact D x h
  .rw[h];have:=Jdi q;omega
theorem Jge(L:List Nat)(n:Nat):((cnN L).getD n ⟨#[]⟩).size<=900:=by
 by_cases h:n<(cnN L).length
 .have:(cnN L).getD n ⟨#[]⟩∈cnN L:=by simp[Vet,h]
  exact JjD _ _ _ _ this
 .have:(cnN L).getD n ⟨#[]⟩=⟨#[]⟩:=by simp[Vet,h]
  rw[this];decide
theorem Jiz(w:World)(nb mb:Nat)(ad:List Nat)(σ:St)(r:TR)(t:Ty)(v:Value)(L:SX w ad σ)(I:RV ad r v)(D:Dn σ r t)(O:sz t<=260)(G:w.heap[nb]? =some (.cells #[.map (some mb)] 215 (0,0)))(E:w.heap[mb]? =some (.map #[] 0)):
  Calls prog 81 #[v,.func (.func 113) #[] #[.pointer (some ⟨nb,0,none⟩)]] w fun e w'=>e= .returned (.string (canT t))/\SX w' ad σ/\Kt ad (·=mb) w w':=by
 have J:(Jao t []).Nodup:=JhQ D.wt [] VcB;have M:(Jao t []).length<=260:=by have:=(Jg3 t []).2;simp at this;omega
 have d:=Vah E;refine Jiy w v ad σ r t 113 #[.pointer (some ⟨nb,0,none⟩)] (cnN (Jao t [])) (NOk ad σ w.heap.size nb mb) (·=mb) (Jao t []) L I D ⟨G,Vah G,d,by simpa[Jbt]using E,by simp⟩ (NOk.okk _ _ _ _ _) (fun q h=>by rw[show q=mb from h];exact d) (Jge _) ?_ (Vch _) (by omega)
 intro b pm i nm g hi;exact JjU ad σ w.heap.size b pm nb mb _ ⟨NOk.okk _ _ _ _ _,(fun q h=>by rw[show q=mb from h];exact d),Jge _⟩ J M i nm g hi
def isW(c:UInt8):Bool:=(97<=c.toNat&&c.toNat<=122)||(48<=c.toNat&&c.toNat<=57)
structure NW(names:List BA):Prop where
 nd:names.Nodup
 ne:∀m,m∈names->m≠⟨#[]⟩/\m≠⟨#[105,110,116]⟩/\m≠⟨#[98,111,111,108]⟩
 w:∀m,m∈names->∀c,c∈m.data.toList->isW c=true
def End1(r:List UInt8):Prop:=r= []\/∃c q,r=c::q/\(c=93\/c=41\/c=44)
def End2(r:List UInt8):Prop:=r= []\/∃c q,r=c::q/\(c=93\/c=41\/c=44\/c=32)
variable {r:List UInt8}
theorem End1.two(h:End1 r):End2 r:=by
 rcases h with h|⟨c,q,h,e⟩
 .exact .inl h
 .exact .inr ⟨c,q,h,by rcases e with e|e|e<;>simp[e]⟩
theorem JlG(a b r s:List UInt8)(J:∀c,c∈a->isW c=true)(L:∀c,c∈b->isW c=true)(T:End2 r)(U:End2 s)(h:a++r=b++s):a=b/\r=s:=by
 have I:∀{x:List UInt8} {c:UInt8} {q:List UInt8},End2 x->x=c::q->isW c=false:=by
  intro x c q G e
  rcases G with G|⟨V,W,D,d⟩
  .rw[G]at e;cases e
  .rw[e]at D
   injection D with D _
   subst D
   rcases d with d|d|d|d<;>rw[d]<;>decide
 induction a generalizing b with
 |nil=>
  cases b with
  |nil=>exact⟨rfl,by simpa using h⟩
  |cons y b=>
   simp at h;have:=I T h;rw[L y (by simp)]at this
   cases this
 |cons x a O=>
  cases b with
  |nil=>
   simp at h;have:=I U h.symm;rw[J x (by simp)]at this
   cases this
  |cons y b=>
   simp at h;obtain⟨M,D⟩:=O b (fun c E=>J c (by simp[E])) (fun c E=>L c (by simp[E])) h.2;exact⟨by rw[h.1,M],D⟩
def sT(names:List BA)(t:Ty):List UInt8:=(Ide names t).data.toList
def Jbj(t:Ty):Bool:=t.kind.data.toList==(⟨#[102,117,110]⟩:BA).data.toList
def lT(names:List BA)(t:Ty):List UInt8:=if Jbj t then 40::(sT names t++ [41])else sT names t
section
variable {names:List BA}
theorem Jlg(a:Ty):sT names (.mk ⟨#[108,105,115,116]⟩ 0 [a])=91::(sT names a++ [93]):=by
 unfold sT;rw[JbU];simp
theorem Jlh(a b:Ty):sT names (.mk ⟨#[112,97,105,114]⟩ 0 [a,b])=40::(sT names a++(44::32::(sT names b++ [41]))):=by
 unfold sT;rw[JbC];simp
theorem JpY(a b:Ty):sT names (.mk ⟨#[102,117,110]⟩ 0 [a,b])=lT names a++(32::45::62::32::sT names b):=by
 unfold lT Jbj;have:sT names (.mk ⟨#[102,117,110]⟩ 0 [a,b])=(Ide names (.mk ⟨#[102,117,110]⟩ 0 [a,b])).data.toList:=rfl;rw[this,Jdt]
 cases(a.kind.data.toList==(⟨#[102,117,110]⟩:BA).data.toList)<;>simp[brkT,sT]
theorem Jep(h:Jbj t=false):lT names t=sT names t:=by unfold lT;rw[h];rfl
theorem Jgu(h:Jbj t=true):lT names t=40::(sT names t++ [41]):=by unfold lT;rw[h];rfl
inductive IsWd(names:List BA):Ty->Prop
 |var (n:Nat):n<names.length->IsWd names (.mk ⟨#[]⟩ n [])
 |int:IsWd names (.mk ⟨#[105,110,116]⟩ 0 [])
 |bool:IsWd names (.mk ⟨#[98,111,111,108]⟩ 0 [])
theorem IsWd.txt(d:NW names)(h:IsWd names t):sT names t≠ []/\(∀c,c∈sT names t->isW c=true)/\Jbj t=false:=by
 cases h with
 |var n E=>
  have D:names.getD n ⟨#[]⟩∈names:=by simp[Vet,E]
  unfold sT;rw[Jbb];refine⟨fun e=>(d.ne _ D).1 (Vbf (VbF.1 e)),d.w _ D,by simp[Jbj,Ty.kind]⟩
 |int=>unfold sT;rw[JbV];exact⟨by decide,by decide,by decide⟩
 |bool=>unfold sT;rw[Jbq];exact⟨by decide,by decide,by decide⟩
variable {u:Ty}
theorem IsWd.inj(G:NW names)(h:IsWd names t)(k:IsWd names u)(e:sT names t=sT names u):t=u:=by
 have e:Ide names t=Ide names u:=Vbf (VbF.1 e)
 cases h with
 |var n I=>
  have E:names.getD n ⟨#[]⟩∈names:=by simp[Vet,I]
  rw[Jbb]at e
  cases k with
  |var d D=>
   rw[Jbb]at e;have J:names[n]=names[d]:=by simpa[Vet,I,D]using e
   have:n=d:=by
    rcases VcY n d with q|q|q
    .exact absurd J ((VaF.1 G.nd) n d I D q)
    .exact q
    .exact absurd J.symm ((VaF.1 G.nd) d n D I q)
   rw[this]
  |int=>rw[JbV]at e;exact absurd e (G.ne _ E).2.1
  |bool=>rw[Jbq]at e;exact absurd e (G.ne _ E).2.2
 |int=>
  rw[JbV]at e
  cases k with
  |var d D=>
   have E:names.getD d ⟨#[]⟩∈names:=by simp[Vet,D]
   rw[Jbb]at e;exact absurd e.symm (G.ne _ E).2.1
  |int=>rfl
  |bool=>rw[Jbq]at e;exact absurd (VbH (fun x=>x.data.toList) e) (by decide)
 |bool=>
  rw[Jbq]at e
  cases k with
  |var d D=>
   have E:names.getD d ⟨#[]⟩∈names:=by simp[Vet,D]
   rw[Jbb]at e;exact absurd e.symm (G.ne _ E).2.2
  |int=>rw[JbV]at e;exact absurd (VbH (fun x=>x.data.toList) e) (by decide)
  |bool=>rfl
def QA(names:List BA)(t:Ty):Prop:=∀u r s,WT names.length u->End2 r->End2 s->lT names t++r=lT names u++s->t=u/\r=s
def QB(names:List BA)(t:Ty):Prop:=∀u r s,WT names.length u->End1 r->End1 s->sT names t++r=sT names u++s->t=u/\r=s
theorem WT.shape(G:NW names)(h:WT names.length u):(IsWd names u/\Jbj u=false)\/(∃a,u= .mk ⟨#[108,105,115,116]⟩ 0 [a]/\WT names.length a/\lT names u=91::(sT names a++ [93]))\/(∃a b,u= .mk ⟨#[112,97,105,114]⟩ 0 [a,b]/\WT names.length a/\WT names.length b/\lT names u=40::(sT names a++(44::32::(sT names b++ [41]))))\/(∃a b,u= .mk ⟨#[102,117,110]⟩ 0 [a,b]/\WT names.length a/\WT names.length b/\Jbj u=true):=by
 cases h with
 |var n E=>exact .inl ⟨.var n E,by simp[Jbj,Ty.kind]⟩
 |int=>exact .inl ⟨.int,by decide⟩
 |bool=>exact .inl ⟨.bool,by decide⟩
 |list a d=>exact .inr (.inl ⟨a,rfl,d,by rw[Jep (by simp[Jbj,Ty.kind]),Jlg]⟩)
 |pair a b d D=>exact .inr (.inr (.inl ⟨a,b,rfl,d,D,by rw[Jep (by simp[Jbj,Ty.kind]),Jlh]⟩))
 |fn a b d D=>exact .inr (.inr (.inr ⟨a,b,rfl,d,D,by simp[Jbj,Ty.kind]⟩))
variable {q:List UInt8}{c:UInt8}
theorem Jjk(G:NW names)(h:IsWd names t)(I:isW c=false):lT names t++r≠c::q:=by
 obtain⟨D,d,E⟩:=h.txt G;rw[Jep E]
 cases e:sT names t with
 |nil=>exact absurd e D
 |cons x l=>
  intro z;simp at z;have:=d x (by rw[e];simp);rw[z.1,I]at this
  cases this
theorem Jjl(I:QA names t)(ht:Jbj t=false)(M:NW names):QB names t:=by
 intro u r s G E L e
 by_cases d:Jbj u=true
 .rcases G.shape M with⟨_,h⟩|⟨a,rfl,_⟩|⟨a,b,rfl,_⟩|⟨a,b,rfl,J,O,_⟩
  .rw[d]at h;cases h
  .simp[Jbj,Ty.kind]at d
  .simp[Jbj,Ty.kind]at d
  .rw[JpY,Val,<-Jep ht]at e;have q:=I a r _ J E.two (.inr ⟨32,_,rfl,by simp⟩) e
   rcases E with h|⟨c,l,h,D⟩
   .rw[h]at q;simp at q
   .rw[h]at q;have:=q.2;simp at this
    rcases D with D|D|D<;>rw[D]at this<;>simp at this
 .have d:Jbj u=false:=by simpa using d
  rw[<-Jep ht,<-Jep d]at e;exact I u r s G E.two L.two e
theorem JoW(d:NW names)(h:WT names.length t):QA names t/\QB names t:=by
 have Y:∀t,IsWd names t->QA names t:=by
  intro t ht u r s M Z V e;obtain⟨t1,t2,t3⟩:=ht.txt d
  rcases M.shape d with⟨U,J⟩|⟨a,rfl,ha,G⟩|⟨a,b,rfl,ha,hb,G⟩|⟨a,b,rfl,ha,hb,J⟩
  .obtain⟨u1,u2,_⟩:=U.txt d;rw[Jep t3,Jep J]at e;obtain⟨T,E⟩:=JlG _ _ _ _ t2 u2 Z V e;exact⟨ht.inj d U T,E⟩
  .rw[G]at e;exact absurd e (Jjk d ht (by decide))
  .rw[G]at e;exact absurd e (Jjk d ht (by decide))
  .rw[Jgu J]at e;exact absurd e (Jjk d ht (by decide))
 induction h with
 |var n hn=>exact⟨Y _ (.var n hn),Jjl (Y _ (.var n hn)) (by simp[Jbj,Ty.kind]) d⟩
 |int=>exact⟨Y _ .int,Jjl (Y _ .int) (by decide) d⟩
 |bool=>exact⟨Y _ .bool,Jjl (Y _ .bool) (by decide) d⟩
 |list a ha ih=>
  have hA:QA names (.mk ⟨#[108,105,115,116]⟩ 0 [a]):=by
   intro u r s M Z V e;rw[Jep (by simp[Jbj,Ty.kind]),Jlg]at e
   rcases M.shape d with⟨U,J⟩|⟨D,rfl,I,G⟩|⟨D,L,rfl,I,O,G⟩|⟨D,L,rfl,I,O,J⟩
   .exact absurd e.symm (Jjk d U (by decide))
   .rw[G]at e;simp at e;obtain⟨T,E⟩:=ih.2 D (93::r) (93::s) I (.inr ⟨93,r,rfl,by simp⟩) (.inr ⟨93,s,rfl,by simp⟩) e;simp at E;exact⟨by rw[T],E⟩
   .rw[G]at e;simp at e
   .rw[Jgu J]at e;simp at e
  exact⟨hA,Jjl hA (by simp[Jbj,Ty.kind]) d⟩
 |pair a b ha hb aa ac=>
  have hA:QA names (.mk ⟨#[112,97,105,114]⟩ 0 [a,b]):=by
   intro u r s M Z V e;rw[Jep (by simp[Jbj,Ty.kind]),Jlh]at e
   rcases M.shape d with⟨U,J⟩|⟨D,rfl,I,G⟩|⟨D,L,rfl,I,O,G⟩|⟨D,L,rfl,I,O,J⟩
   .exact absurd e.symm (Jjk d U (by decide))
   .rw[G]at e;simp at e
   .rw[G]at e;simp at e;obtain⟨T,E⟩:=aa.2 D _ _ I (.inr ⟨44,_,rfl,by simp⟩) (.inr ⟨44,_,rfl,by simp⟩) e;simp at E;obtain⟨q3,q4⟩:=ac.2 L (41::r) (41::s) O (.inr ⟨41,r,rfl,by simp⟩) (.inr ⟨41,s,rfl,by simp⟩) E;simp at q4;exact⟨by rw[T,q3],q4⟩
   .rw[Jgu J]at e;simp at e;obtain⟨_,E⟩:=aa.2 _ _ (41::s) (.fn D L I O) (.inr ⟨44,_,rfl,by simp⟩) (.inr ⟨41,s,rfl,by simp⟩) e;simp at E
  exact⟨hA,Jjl hA (by simp[Jbj,Ty.kind]) d⟩
 |fn a b ha hb aa ac=>
  have hB:QB names (.mk ⟨#[102,117,110]⟩ 0 [a,b]):=by
   intro u r s M Z V e;rw[JpY,Val]at e
   by_cases W:Jbj u=true
   .rcases M.shape d with⟨_,h⟩|⟨D,rfl,_⟩|⟨D,L,rfl,_⟩|⟨D,L,rfl,I,O,_⟩
    .rw[W]at h;cases h
    .simp[Jbj,Ty.kind]at W
    .simp[Jbj,Ty.kind]at W
    .rw[JpY,Val]at e;obtain⟨T,E⟩:=aa.1 D _ _ I (.inr ⟨32,_,rfl,by simp⟩) (.inr ⟨32,_,rfl,by simp⟩) e;simp at E;obtain⟨q3,q4⟩:=ac.2 L r s O Z V E;exact⟨by rw[T,q3],q4⟩
   .have W:Jbj u=false:=by simpa using W
    rw[<-Jep W]at e;have q:=aa.1 u _ s M (.inr ⟨32,_,rfl,by simp⟩) V.two e
    rcases V with h|⟨c,l,h,h2⟩
    .rw[h]at q;simp at q
    .rw[h]at q;have:=q.2;simp at this
     rcases h2 with h2|h2|h2<;>rw[h2]at this<;>simp at this
  refine⟨?_,hB⟩
  intro u r s M Z V e;rw[Jgu (by simp[Jbj,Ty.kind])]at e
  rcases M.shape d with⟨U,J⟩|⟨D,rfl,I,G⟩|⟨D,L,rfl,I,O,G⟩|⟨D,L,rfl,I,O,J⟩
  .exact absurd e.symm (Jjk d U (by decide))
  .rw[G]at e;simp at e
  .rw[G]at e;simp at e;obtain⟨_,E⟩:=hB D (41::r) _ I (.inr ⟨41,r,rfl,by simp⟩) (.inr ⟨44,_,rfl,by simp⟩) e;simp at E
  .rw[Jgu J]at e;simp at e;obtain⟨T,E⟩:=hB _ (41::r) (41::s) (.fn D L I O) (.inr ⟨41,r,rfl,by simp⟩) (.inr ⟨41,s,rfl,by simp⟩) e;simp at E;exact⟨T,E⟩
theorem Jp1(d:NW names)(ht:WT names.length t)(h:WT names.length u)(e:Ide names t=Ide names u):t=u:=by
 have:=(JoW d ht).2 u [] [] h (.inl rfl) (.inl rfl) (by unfold sT;rw[e]);exact this.1
end
end Go.Proofs.YtleenphlgbklmaaGreatDoor
