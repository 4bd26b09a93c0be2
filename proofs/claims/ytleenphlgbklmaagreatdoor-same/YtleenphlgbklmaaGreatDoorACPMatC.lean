import Derived.Test.YtleenphlgbklmaaGreatDoorACPInj
set_option linter.unusedVariables false
set_option linter.unusedSimpArgs false
set_option maxRecDepth 100000
set_option maxHeartbeats 8000000
open List renaming getD → Veu
namespace Go.Proofs.YtleenphlgbklmaaGreatDoor
open Go.RowKit
open World renaming cell? → Vet
open Instr renaming typeAssert → Vev
open Tryz
variable {w w':World}{c:Nat}{names:List BA}
variable {ad:List Nat}{σ:St}{n:Nat}{nm:BA}{g:Bool}{s:Option TR}
theorem SX.vname(h:SX w ad σ)(L:σ[n]? =some ⟨.vr nm g,s⟩)(J:ad[n]? =some c):w.cell? ⟨c,1,none⟩=some (.string nm)/\w.cell? ⟨c,2,none⟩=some (.bool g):=by
 obtain⟨τ,G,D⟩:=h;obtain⟨M,I,_⟩:=D.kk n _ _ L;obtain⟨sv,o,E,_,d⟩:=G.blk n _ _ c I J;have d:o= .cells #[sv,.string nm,.bool g] 221 (0,0):=d;subst d;simp[Vet,E]
theorem JpA(w:World)(c:Nat)(nm:BA)(h:w.cell? ⟨c,1,none⟩=some (.string nm)):Calls prog 116 #[.pointer (some ⟨c,0,none⟩)] w fun e w'=>e= .returned (.string nm)/\w'=w:=by
 go_enter func116,ntmps116
 go_wp2
 go_ret
 exact⟨rfl,rfl⟩
def WN(ad:List Nat)(σ:St)(B b d:Nat)(F:List BA)(L:List Nat):WE:=⟨ad,σ,B,b,d,.func (.func 116) #[] #[],F,fun _ _=>True,fun _=>False,L⟩
theorem Joc(ad:List Nat)(B:Nat):OkK ad B (fun _ _=>True):=fun _ _ _ _ _=>trivial
theorem JjV(ad:List Nat)(σ:St)(B b D:Nat)(F:List BA)(L:List Nat)(O:(WN ad σ B b D F L).Ok)(n:Nat)(nm:BA)(g:Bool)(U:σ[n]? =some ⟨.vr nm g,none⟩)(hF:F.getD n ⟨#[]⟩=nm)(aa:0<nm.size):SFst (WN ad σ B b D F L) (.nd .vr n) (.mk ⟨#[]⟩ n []):=by
 intro w v l d E hv h hp hn hl;have ac:sz (.mk ⟨#[]⟩ n [])=1:=by simp[sz,szs]
 rw[ac]at hn hl⊢;obtain⟨c,G,rfl⟩:=hv;have G:ad[n]? =some c:=G;rw[show Kd.vr.tp=216 from rfl];show Calls prog 184 #[.pointer (some ⟨b,0,none⟩),_] w _;have ah:nm.size<=900:=by rw[<-hF];exact O.short n
 have T:Hid _:=JpA w c nm (SX.vname h.st U G).1;have HS:Hid _:=Jbe _ O w l d E h nm aa (by omega) (by omega);have t1:=Ib3 (.pointer (some ⟨c,0,none⟩)) w;have t2:=Ib6 (.pointer (some ⟨c,0,none⟩)) w;have c0:w.cell? ⟨b,0,none⟩=some (.func (.func 116) #[] #[]):=h.tl.c.1
 have HP:Hid (∀(w':World),(WN ad σ B b D F L).TX w' l (d++ [.tk nm]) E->(WN ad σ B b D F L).TX w' (Jao (.mk ⟨#[]⟩ n []) l) (d++ [.tk nm]) E):=fun w' hT=>by
  obtain⟨q1,q2,q3,q4,q5,q6,V,q8⟩:=hT;refine⟨q1,q2,q3,trivial,q5,q6,V,fun e I=> ?_⟩
  obtain⟨ae,M,Z,z3,z4,Y⟩:=q8 e I;exact⟨ae,M,Z,z3,z4,JdQ M.wt l _ (by rw[Y];exact Jca (m:=n+1) (.var n (by omega)) l)⟩
 clear h hp U G
 go_enter Vda,VcV
 go_wp2_with fail
 refine Vac T.out ?_
 rintro e w2 ⟨rfl,J⟩;rw[J];clear T J w2
 go_wp2_with fail
 refine Vac HS.out ?_
 rintro e W ⟨rfl,af,ag⟩
 go_wp2
 go_end0
 refine⟨rfl,d++ [.tk nm],E,HP.out W af,?_,?_,by simp,fun e I=> .inl I,ag⟩
 .show _=decS d++Ide F _;rw[Jbb,hF,Jbv]
 .rw[Jaj];omega
theorem SX.same(aa:SX w ad σ)(h':SX w' ad σ)(hr:∀(i:Nat) (nd:Nd),σ[i]? =some nd->nd.s=none):∀c o,c∈ad->w.heap[c]? =some o->w'.heap[c]? =some o:=by
 intro c o hc I;obtain⟨τ,U,T⟩:=aa;obtain⟨τ',g1,g2⟩:=h';obtain⟨i,hi⟩:=Ves hc
 have O:i<σ.length:=by
  have:=(Vae.1 hi).1;rw[U.len,T.len]at this;exact this
 have hs:=hr i σ[i] (by simp[O]);have W:σ[i]? =some ⟨(σ[i]).k,none⟩:=by rw[<-hs];simp[O]
 obtain⟨sv,q,a1,M,E⟩:=U.blk i _ _ c (T.root W) hi;obtain⟨ac,V,Z,J,D⟩:=g1.blk i _ _ c (g2.root W) hi;rw[a1]at I;simp at I;subst I;have M:sv= .nilIface:=M;have J:ac= .nilIface:=J;subst M J;rw[Z];congr 1
 generalize(σ[i]).k=nk at*
 cases nk with
 |vr nm g=>exact D.trans (Eq.symm E)
 |ls x=>
  obtain⟨p,h,rfl⟩:=E;obtain⟨Y,d,rfl⟩:=D;rw[h.det d]
 |pr x y=>
  obtain⟨p,q,h,G,rfl⟩:=E;obtain⟨Y,V,d,L,rfl⟩:=D;rw[h.det d,G.det L]
 |ar x y=>
  obtain⟨p,q,h,G,rfl⟩:=E;obtain⟨Y,V,d,L,rfl⟩:=D;rw[h.det d,G.det L]
variable {m:Nat}{t:Ty}
theorem JiL(vs:Nat)(h:WT m t):∀τ:St,(∀(i:Nat) (nd:Nd),τ[i]? =some nd->nd.s=none)->∀(i:Nat) (nd:Nd),(Idb vs t τ).2[i]? =some nd->nd.s=none:=by
 have snoc:∀(τ:St) (x:NK),(∀(i:Nat) (nd:Nd),τ[i]? =some nd->nd.s=none)->∀(i:Nat) (nd:Nd),(τ++ [(⟨x,none⟩:Nd)])[i]? =some nd->nd.s=none:=by
  intro τ x d i nd hi
  by_cases e:i<τ.length
  .rw[Vak e]at hi;exact d i nd hi
  .rw[VaU (by omega)]at hi
   have:i-τ.length=0:=by
    have:=(Vae.1 hi).1;simp at this;omega
   rw[this]at hi;simp at hi;rw[<-hi]
 induction h with
 |var n G=>intro τ d;rw[JcM];exact d
 |int=>intro τ d;rw[JcL];exact d
 |bool=>intro τ d;rw[JbW];exact d
 |list a _ D=>intro τ d;rw[JbX];exact snoc _ _ (D τ d)
 |pair a b _ _ D E=>intro τ d;rw[JbY];exact snoc _ _ (E _ (D τ d))
 |fn a b _ _ D E=>intro τ d;rw[Jdy];exact snoc _ _ (E _ (D τ d))
theorem Jjo(vs:Nat)(h:WT m t):∀τ:St,∀(i:Nat) (nm:BA) (g:Bool) (s:Option TR),(Idb vs t τ).2[i]? =some ⟨.vr nm g,s⟩->τ[i]? =some ⟨.vr nm g,s⟩:=by
 have snoc:∀(τ:St) (x:NK),x.kd≠ .vr->∀(i:Nat) (nm:BA) (g:Bool) (s:Option TR),(τ++ [(⟨x,none⟩:Nd)])[i]? =some ⟨.vr nm g,s⟩->τ[i]? =some ⟨.vr nm g,s⟩:=by
  intro τ x E i nm g s hi
  by_cases e:i<τ.length
  .rw[Vak e]at hi;exact hi
  .rw[VaU (by omega)]at hi
   have:i-τ.length=0:=by
    have:=(Vae.1 hi).1;simp at this;omega
   rw[this]at hi;simp at hi;rw[hi.1]at E;exact absurd rfl E
 induction h with
 |var n G=>intro τ i nm g s;rw[JcM];exact id
 |int=>intro τ i nm g s;rw[JcL];exact id
 |bool=>intro τ i nm g s;rw[JbW];exact id
 |list a _ d=>intro τ i nm g s hi;rw[JbX]at hi;exact d τ i nm g s (snoc _ _ (by simp[NK.kd]) i nm g s hi)
 |pair a b _ _ d D=>intro τ i nm g s hi;rw[JbY]at hi;exact d τ i nm g s (D _ i nm g s (snoc _ _ (by simp[NK.kd]) i nm g s hi))
 |fn a b _ _ d D=>intro τ i nm g s hi;rw[Jdy]at hi;exact d τ i nm g s (D _ i nm g s (snoc _ _ (by simp[NK.kd]) i nm g s hi))
theorem Jll(w:World)(vb:List Nat)(lo hi:Nat)(names:List BA)(t:Ty)(v:Value)(h:PTyR w vb lo hi t v)(hs:sz t<=260)(d:NB w vb names)(U:vb.Nodup)(T:∀n,n∈names->0<n.size/\n.size<=900):
  Calls prog 81 #[v,.func (.func 116) #[] #[]] w fun e w'=>e= .returned (.string (Ide names t))/\Kept w w':=by
 have Y:SW w [] []:=⟨rfl,VcB,fun i nk s b hi=>by simp at hi⟩
 have J:=SW.vars names Y d.1 d.2 U (fun c _ z=>by simp at z);simp only[VaK]at J
 obtain⟨bl,s1,r1,_⟩:=SW.adopt h 0 vb (vrs names) J (fun n b Z=>by simpa using Z) (fun c hc=> .inl (by
  obtain⟨j,O,rfl⟩:=Vbk hc;have:=d.2 j (d.1▸O);have e:vb.getD j 0=vb[j]:=by simp[Veu,O]
  rw[e]at this;exact⟨_,_,this⟩))
 have I:SX w (vb++bl) (Idb 0 t (vrs names)).2:=⟨_,s1,Ev.refl _⟩
 have aa:Dn (Idb 0 t (vrs names)).2 (Idb 0 t (vrs names)).1 t:=by
  have:=Dn.addT 0 h.wt (vrs names) (fun n W=>by
   refine⟨names.getD n ⟨#[]⟩,false,?_⟩
   have:n<names.length:=d.1▸W;simp[vrs,this])
  rw[JeO h.wt]at this;exact this
 have ac:∀(i:Nat) (nm:BA) (g:Bool),(Idb 0 t (vrs names)).2[i]? =some ⟨.vr nm g,none⟩->names.getD i ⟨#[]⟩=nm/\nm∈names:=fun i nm g hi=>by
  have:=Jjo 0 h.wt _ i nm g none hi;simp only[vrs,VbK,Va5]at this;obtain⟨x,G,E⟩:=this;simp at E;obtain⟨rfl,_⟩:=E;exact⟨by simp[Veu,G],Vbn G⟩
 have L:∀n,(names.getD n ⟨#[]⟩).size<=900:=fun n=>by
  by_cases e:n<names.length
  .exact(T _ (by simp[Veu,e])).2
  .have:names.getD n ⟨#[]⟩=⟨#[]⟩:=by simp[Veu,e]
   rw[this];decide
 have hr:∀(i:Nat) (nd:Nd),(Idb 0 t (vrs names)).2[i]? =some nd->nd.s=none:=JiL 0 h.wt _ (fun i nd hi=>by
  simp only[vrs,VbK,Va5]at hi;obtain⟨x,_,rfl⟩:=hi;rfl)
 refine(Jiy w v (vb++bl) _ _ t 116 #[] names (fun _ _=>True) (fun _=>False) (Jao t []) I r1 aa trivial (Joc _ _) (fun _ z=>z.elim) L ?_ (Vch _) (by omega)).mono ?_
 .intro b V i nm g hi;obtain⟨G,E⟩:=ac i nm g hi;exact JjV _ _ _ b V names _ ⟨Joc _ _,fun _ z=>z.elim,L⟩ i nm g hi G (T nm E).1
 .rintro e w' ⟨rfl,ae,D⟩;refine⟨rfl,D.os,D.output,D.size,fun q hq=> ?_⟩
  have e:w.heap[q]? =some w.heap[q]:=by simp
  rw[e]
  by_cases M:q∈vb++bl
  .exact I.same ae hr q _ M e
  .exact D.blk0 q _ e (fun z=>z) (fun _ z=>M z)
mutual
def eqM:Ty->Ty->Bool
 | .mk k n l,.mk h D d=>(k.data.toList==h.data.toList)&&decide (n=D)&&decide (l.length=d.length)&&eqMs l d
def eqMs:List Ty->List Ty->Bool
 | [],_=>true
 |_::_,[]=>true
 |t::ts,u::d=>eqM t u&&eqMs ts d
end
mutual
def matM:Ty->Ty->List (Option Ty)->List (Option Ty)×Bool
 | .mk kd n kids,.mk h D d,gs=>
  if kd.data.toList== []then
   match gs.getD n none with
   |some t=>(gs,eqM t (.mk h D d))
   |none=>(gs.set n (some (.mk h D d)),true)
  else if kd.data.toList==h.data.toList then JdK kids d gs
  else(gs,false)
def JdK:List Ty->List Ty->List (Option Ty)->List (Option Ty)×Bool
 | [],_,gs=>(gs,true)
 |_::_,[],gs=>(gs,true)
 |t::ts,u::d,gs=>if(matM t u gs).2 then JdK ts d (matM t u gs).1 else(gs,false)
end
mutual
theorem Jii:∀(a b:Ty) (gs:List (Option Ty)),(matM a b gs).1.length=gs.length
 | .mk kd n kids,.mk D h d,gs=>by
  simp only[matM]
  split
  .split<;>simp
  .split
   .exact Jgy kids d gs
   .rfl
theorem Jgy:∀(ts d:List Ty) (gs:List (Option Ty)),(JdK ts d gs).1.length=gs.length
 | [],_,gs=>by simp[JdK]
 |_::_,[],gs=>by simp[JdK]
 |t::ts,u::d,gs=>by
  simp only[JdK]
  split
  .rw[Jgy ts d,Jii t u]
  .rfl
end
theorem IaN:(prog.info? 33).map (fun i=>(i.zero,i.size,i.bytes))=some (some (.pointer none),1,8):=by kernel_rfl
mutual
theorem JjK:∀t u:Ty,eqM t u=true<->t=u
 | .mk k n l,.mk M T I=>by
  simp only[eqM,Vaz,Va1,Vbs]
  constructor
  .rintro⟨⟨⟨J,E⟩,L⟩,G⟩;have d:k=M:=Vbf (VbF.1 J);have D:=(Jfw l I L).1 G;rw[d,E,D]
  .intro h
   injection h with d O D
   subst d O D;exact⟨⟨⟨rfl,rfl⟩,rfl⟩,(Jfw l l rfl).2 rfl⟩
theorem Jfw:∀(ts d:List Ty),ts.length=d.length->(eqMs ts d=true<->ts=d)
 | [],[],_=>by simp[eqMs]
 | [],_::_,h=>by simp at h
 |_::_,[],h=>by simp at h
 |t::ts,u::d,h=>by
  simp only[eqMs,Vaz,Vb5];rw[JjK t u,Jfw ts d (by simpa using h)]
end
structure MG(names own:List BA)(kv:List (BA×BA))(gs:List (Option Ty)):Prop where
 len:gs.length=names.length
 got:∀n t,gs.getD n none=some t->∃j,kv.findIdx? (fun y=>Jag y.1 (names.getD n ⟨#[]⟩))=some j/\(kAt kv j).2=Ide own t/\WT own.length t
 not:∀n,n<names.length->gs.getD n none=none->kv.findIdx? (fun y=>Jag y.1 (names.getD n ⟨#[]⟩))=none
 key:∀y,y∈kv->∃n,n<names.length/\y.1=names.getD n ⟨#[]⟩/\gs.getD n none≠none
theorem Jdl(n:Nat)(u:Ty)(gs:List (Option Ty)):matM (.mk ⟨#[]⟩ n []) u gs=match gs.getD n none with|some t=>(gs,eqM t u)|none=>(gs.set n (some u),true):=by
 cases u with
 |mk d h D=>
  simp only[matM];rfl
variable {a b:Nat}
theorem Jkv(h:names.Nodup)(d:a<names.length)(D:b<names.length)(e:names.getD a ⟨#[]⟩=names.getD b ⟨#[]⟩):a=b:=by
 have E:names[a]=names[b]:=by simpa[Veu,d,D]using e
 rcases VcY a b with q|q|q
 .exact absurd E ((VaF.1 h) a b d D q)
 .exact q
 .exact absurd E.symm ((VaF.1 h) b a D d q)
variable {kv:List (BA×BA)}{p:BA×BA->Bool}
theorem JdT(x:BA×BA):(kv++ [x]).findIdx? p=match kv.findIdx? p with|some j=>some j|none=>if p x then some kv.length else none:=by
 rw[List.findIdx?_append]
 cases kv.findIdx? p with
 |some j=>simp
 |none=>
  cases h:p x<;>simp[h]
variable {own:List BA}{gs:List (Option Ty)}
theorem MG.new(h:MG names own kv gs)(V:names.Nodup)(n:Nat)(I:n<names.length)(u:Ty)(U:WT own.length u)(T:gs.getD n none=none):MG names own (kv++ [(names.getD n ⟨#[]⟩,Ide own u)]) (gs.set n (some u)):=by
 have M:=h.len
 have gd:∀m,(gs.set n (Option.some u)).getD m Option.none=if m=n then Option.some u else gs.getD m Option.none:=by
  intro m
  by_cases e:m=n
  .subst e;simp[Veu,VbJ,M,I]
  .simp[Veu,VbJ,e,Vdg e]
 refine⟨by simp[M],?_,?_,?_⟩
 .intro m t d;rw[gd]at d;rw[JdT]
  by_cases e:m=n
  .subst e;rw[Vat rfl]at d;obtain rfl:=VbN d;rw[h.not m I T];refine⟨kv.length,?_,by simp[kAt,Veu],U⟩
   simp[Jag]
  .rw[Vaq e]at d;obtain⟨j,G,J,L⟩:=h.got m t d;refine⟨j,by rw[G],?_,L⟩
   have O:j<kv.length:=(VaZ.1 G).1;rw[<-J];simp[kAt,Veu,Vak O]
 .intro m d E;rw[gd]at E
  by_cases e:m=n
  .rw[Vat e]at E;cases E
  .rw[Vaq e]at E;rw[JdT,h.not m d E]
   have:Jag (names.getD n ⟨#[]⟩) (names.getD m ⟨#[]⟩)=false:=by
    rw[Vbm];intro q;exact e (Jkv V I d ((Jaf _ _).1 q)).symm
   simp only[this];rfl
 .intro y D
  rcases Vbd.1 D with D|D
  .obtain⟨m,G,J,L⟩:=h.key y D;refine⟨m,G,J,?_⟩
   rw[gd]
   split
   .simp
   .exact L
  .simp at D;subst D;exact⟨n,I,rfl,by rw[gd,Vat rfl];simp⟩
theorem JlP(w:World)(mb:Nat)(kv:List (BA×BA))(names own:List BA)(gs:List (Option Ty))(n:Nat)(u:Ty)(D:SM w mb kv)(h:MG names own kv gs)(Y:names.Nodup)(L:n<names.length)(W:(names.getD n ⟨#[]⟩).size<=1000000)(U:NW own)(J:WT own.length u):
  Calls prog 115 #[.map (some mb),.string (names.getD n ⟨#[]⟩),.string (Ide own u)] w fun e w'=>∃I,e= .returned (.bool (matM (.mk ⟨#[]⟩ n []) u gs).2)/\SM w' mb I/\((matM (.mk ⟨#[]⟩ n []) u gs).2=true->MG names own I (matM (.mk ⟨#[]⟩ n []) u gs).1)/\Kp (·=mb) w w':=by
 rw[Jdl]
 cases G:gs.getD n none with
 |some t=>
  obtain⟨j,E,T,V⟩:=h.got n t G;refine(JlR w mb kv _ (Ide own u) D j E).mono ?_
  rintro e w' ⟨rfl,d⟩
  have M:Jag (kAt kv j).2 (Ide own u)=eqM t u:=by
   rw[T];rw[Vb7,Jaf,JjK];exact⟨fun e=>Jp1 U V J e,fun e=>by rw[e]⟩
  refine⟨kv,by rw[M],D.kp d (fun z=>z),fun _=>h,d.mono (fun _ _ z=>z.elim)⟩
 |none=>
  have E:=h.not n L G;refine(JlQ w mb kv _ (Ide own u) D E W).mono ?_
  rintro e w' ⟨rfl,O,d⟩;exact⟨_,rfl,O,fun _=>h.new Y n L u J G,d⟩
structure MW(w:World)(mb:Nat)(names own:List BA)(vg vs:List Nat)(kv:List (BA×BA))(gs:List (Option Ty)):Prop where
 ng:NB w vg names
 ns:NB w vs own
 nd:vs.Nodup
 sm:SM w mb kv
 mg:MG names own kv gs
structure MC(names own:List BA):Prop where
 nn:names.Nodup
 sh:∀n,n∈names->n.size<=1000000
 ow:NW own
 os:∀n,n∈own->0<n.size/\n.size<=900
variable {mb:Nat}{vb:List Nat}
theorem NB.kq{E:Array MapEntry}(h:NB w vb names)(k:Kq (·=mb) w w')(D:w.heap[mb]? =some (.map E c)):NB w' vb names:=⟨h.1,fun j d=>by
 have:=h.2 j d;exact(k.block _ (Vah this) (fun z=>by rw[show _=mb from z,D]at this;cases this)).trans this⟩
variable {lo hi:Nat}{v:Value}
theorem PTyR.kq{E:Array MapEntry}(h:PTyR w vb lo hi t v)(k:Kq (·=mb) w w')(D:w.heap[mb]? =some (.map E c)):PTyR w' vb lo hi t v:=h.keep (fun q G e f _ d=>(k.block _ (Vah d) (fun z=>by rw[show q=mb from z,D]at d;cases d)).trans d)
def SMt(names own:List BA)(a:Ty):Prop:=∀(w:World) (mb:Nat) (h vs:List Nat) (kv:List (BA×BA)) (gs:List (Option Ty)) (lo hi D E:Nat) (u:Ty) (v x:Value),MW w mb names own h vs kv gs->PTyR w h lo hi a v->PTyR w vs D E u x->sz u<=120->
 Calls prog 86 #[.map (some mb),v,x] w fun e w'=>∃d,e= .returned (.bool (matM a u gs).2)/\SM w' mb d/\((matM a u gs).2=true->MG names own d (matM a u gs).1)/\Kq (·=mb) w w'
theorem Jrh(names own:List BA)(G:MC names own)(n:Nat):SMt names own (.mk ⟨#[]⟩ n []):=by
 intro w mb W vs kv gs lo hi af ae u v x h hv L ai
 cases hv with
 |base _ _ _ _ D=>rcases D with e|e<;>cases e
 |var _ b _ _ _ O=>
  have Z:n<W.length:=(Vae.1 O).1;have M:n<names.length:=h.ng.1▸Z;have aa:names.getD n ⟨#[]⟩∈names:=by simp[Veu,M]
  have U:=h.ng.2 n M;have Y:W.getD n 0=b:=by simp[Veu,O]
  rw[Y]at U;have ag:w.cell? ⟨b,1,none⟩=some (.string (names.getD n ⟨#[]⟩)):=by simp[Vet,U]
  have HS:Hid (Calls prog 81 #[x,.func (.func 116) #[] #[]] w.drew fun e w'=>e= .returned (.string (Ide own u))/\Kept w.drew w'):=Jll w.drew vs af ae own u x (L.keep (PKeep.kept (Kept.refl w).drw)) (by omega) ⟨h.ns.1,h.ns.2⟩ h.nd G.os
  have HB:Hid (∀d,Kept w.drew d->Calls prog 115 #[.map (some mb),.string (names.getD n ⟨#[]⟩),.string (Ide own u)] d fun e w'=>∃E,e= .returned (.bool (matM (.mk ⟨#[]⟩ n []) u gs).2)/\SM w' mb E/\((matM (.mk ⟨#[]⟩ n []) u gs).2=true->MG names own E (matM (.mk ⟨#[]⟩ n []) u gs).1)/\Kq (·=mb) w w'):=fun d D=>by
   refine(JlP d mb kv names own gs n u ⟨D.blk h.sm.mp,h.sm.nd⟩ h.mg G.nn M (G.sh _ aa) G.ow (by rw[<-h.ns.1];exact L.wt)).mono ?_
   rintro e w' ⟨E,J,I,T,h4⟩;exact⟨E,J,I,T,(Kq.of_kept ((Kept.refl w).drw.trans D)).trans (Kq.of_kp h4 (fun _ z=>z))⟩
  have ac:Hid (∀d,Kept w.drew d->d.cell? ⟨b,1,none⟩=some (.string (names.getD n ⟨#[]⟩))):=fun d D=>D.cell (a:=⟨b,1,none⟩) ag
  obtain⟨aj,z,rfl⟩:=L.iface;have t1:=Ib6 (.pointer (some ⟨b,0,none⟩)) w;clear h L G U O aa M Z Y;generalize names.getD n ⟨#[]⟩=nm at*
  go_enter Vcd,Vb2
  go_wp2_with fail
  go_region_with (first|(go_at_call 81;refine Vac HS.out ?_;rintro e d ⟨rfl,V⟩;have ah:=ac.out d V)|(go_at_call 115;refine Vac (HB.out d V) ?_;rintro e w2 ⟨E,rfl,J,I,T⟩;have H1:Hid _:=J;have H2:Hid _:=I;clear J I))
  all_goals
   go_wp2
   go_ret
   exact⟨E,rfl,H1.out,H2.out,T⟩
theorem IbO(v:Value)(w:World):(Vev (.iface 343 v) 156 222 true).run prog w= .ok (.tuple #[.pointer none,.bool false]) w:=by kernel_rfl
theorem IbP(v:Value)(w:World):(Vev (.iface 343 v) 156 226 true).run prog w= .ok (.tuple #[.pointer none,.bool false]) w:=by kernel_rfl
theorem IbQ(v:Value)(w:World):(Vev (.iface 343 v) 156 216 true).run prog w= .ok (.tuple #[.pointer none,.bool false]) w:=by kernel_rfl
theorem Jae(k d:BA)(n D:Nat)(l E:List Ty)(gs:List (Option Ty))(G:(k.data.toList== [])=false)(h:(k.data.toList==d.data.toList)=false):matM (.mk k n l) (.mk d D E) gs=(gs,false):=by
 simp only[matM,G,h,Vao,VaS]
theorem Jeu(a c:Ty)(gs:List (Option Ty)):(matM (.mk ⟨#[108,105,115,116]⟩ 0 [a]) (.mk ⟨#[108,105,115,116]⟩ 0 [c]) gs).2=(matM a c gs).2/\((matM a c gs).2=true->(matM (.mk ⟨#[108,105,115,116]⟩ 0 [a]) (.mk ⟨#[108,105,115,116]⟩ 0 [c]) gs).1=(matM a c gs).1):=by
 have e:matM (.mk ⟨#[108,105,115,116]⟩ 0 [a]) (.mk ⟨#[108,105,115,116]⟩ 0 [c]) gs=if(matM a c gs).2 then((matM a c gs).1,true)else(gs,false):=by
  rw[matM];simp[JdK]
 rw[e]
 cases(matM a c gs).2<;>simp
theorem Jdk(k:BA)(h:(k.data.toList== [])=false)(a b c d:Ty)(gs:List (Option Ty)):matM (.mk k 0 [a,b]) (.mk k 0 [c,d]) gs=if(matM a c gs).2 then(if(matM b d (matM a c gs).1).2 then((matM b d (matM a c gs).1).1,true)else((matM a c gs).1,false))else(gs,false):=by
 rw[matM];simp only[h,Vao,VaS,beq_self_eq_true,Va0,JdK]
theorem JiU(w:World)(mb b:Nat)(x:Value)(d:∃T z,x= .iface T z)(D:(Vev x 156 222 true).run prog w= .ok (.tuple #[.pointer none,.bool false]) w):
  Calls prog 86 #[.map (some mb),.iface 222 (.pointer (some ⟨b,0,none⟩)),x] w fun e w'=>e= .returned (.bool false)/\Kept w w':=by
 obtain⟨T,z,rfl⟩:=d;have E:=IbV (.pointer (some ⟨b,0,none⟩)) w;have h:=IbT (.pointer (some ⟨b,0,none⟩)) w
 go_enter Vcd,Vb2
 go_wp2_with fail
 go_region
 all_goals
  go_wp2
  go_ret
  exact⟨rfl,(Kept.refl w).drw⟩
theorem Jhs(w:World)(mb b c:Nat)(p q:Value)(R:Bool->World->Prop)(d:∃T z,p= .iface T z)(D:∃T z,q= .iface T z)(V:w.cell? ⟨b,1,none⟩=some p)(Y:w.cell? ⟨c,1,none⟩=some q)
 (G:Hid (Calls prog 86 #[.map (some mb),p,q] w.drew fun e w'=>∃r,e= .returned (.bool r)/\Hid (R r w')/\w'.cell? ⟨b,1,none⟩=some p/\w'.cell? ⟨c,1,none⟩=some q)):
  Calls prog 86 #[.map (some mb),.iface 222 (.pointer (some ⟨b,0,none⟩)),.iface 222 (.pointer (some ⟨c,0,none⟩))] w fun e w'=>∃r,e= .returned (.bool r)/\Hid (R r w'):=by
 obtain⟨T,z,rfl⟩:=d;obtain⟨I,h,rfl⟩:=D;have O:=IbV (.pointer (some ⟨b,0,none⟩)) w;have J:=IbT (.pointer (some ⟨b,0,none⟩)) w;have M:=IbT (.pointer (some ⟨c,0,none⟩)) w
 go_enter Vcd,Vb2
 go_wp2_with fail
 go_region_held3 (fun w'=>w'.cell? ⟨b,1,none⟩=some (.iface T z)/\w'.cell? ⟨c,1,none⟩=some (.iface I h)) (go_keep) (first|(go_at_call 86;refine Vac G.out ?_;rintro e L ⟨r,rfl,E,U,W⟩))
 all_goals
  go_wp2
  go_ret
  exact⟨r,rfl,E⟩
theorem Jpr(names own:List BA)(a:Ty)(ih:SMt names own a):SMt names own (.mk ⟨#[108,105,115,116]⟩ 0 [a]):=by
 intro w mb vg vs kv gs lo hi ai aj u v x h hv Z af
 have J:∀(T:BA) (W:Nat) (l':List Ty),u= .mk T W l'->((⟨#[108,105,115,116]⟩:BA).data.toList==T.data.toList)=false->(Vev x 156 222 true).run prog w= .ok (.tuple #[.pointer none,.bool false]) w->Calls prog 86 #[.map (some mb),v,x] w fun e w'=>∃d,e= .returned (.bool (matM (.mk ⟨#[108,105,115,116]⟩ 0 [a]) u gs).2)/\SM w' mb d/\((matM (.mk ⟨#[108,105,115,116]⟩ 0 [a]) u gs).2=true->MG names own d (matM (.mk ⟨#[108,105,115,116]⟩ 0 [a]) u gs).1)/\Kq (·=mb) w w':=by
  rintro T W l' rfl G ag;rw[Jae _ _ _ _ _ _ _ (by decide) G]
  cases hv with
  |list _ b p _ m _ E V h1 h2=>
   refine(JiU w mb b x Z.iface ag).mono ?_
   rintro e w' ⟨rfl,G⟩;exact⟨kv,rfl,⟨G.blk h.sm.mp,h.sm.nd⟩,fun z=>by simp at z,Kq.of_kept G⟩
 cases Z with
 |var n c _ _ _ D=>exact J _ _ _ rfl (by decide) (Ib4 _ w)
 |base kd _ _ _ G=>exact J _ _ _ rfl (by rcases G with rfl|rfl<;>decide) (IbO _ w)
 |pair _ _ c _ _ _ _ _ _ D _ _ _ _=>exact J _ _ _ rfl (by decide) (IbY _ w)
 |fn _ _ c _ _ _ _ _ _ D _ _ _ _=>exact J _ _ _ rfl (by decide) (IbJ _ w)
 |list y c q _ m2 _ D Y h3 h4=>
  cases hv with
  |list _ b p _ m _ E V h1 h2=>
   have ac:sz y<=120:=by simp only[sz,szs]at af;omega
   have aa:=h.sm.mp;have L:=Jeu a y gs
   have HM:Hid (Calls prog 86 #[.map (some mb),p,q] w.drew fun e w'=>∃r,e= .returned (.bool r)/\Hid (∃d,r=(matM (.mk ⟨#[108,105,115,116]⟩ 0 [a]) (.mk ⟨#[108,105,115,116]⟩ 0 [y]) gs).2/\SM w' mb d/\((matM (.mk ⟨#[108,105,115,116]⟩ 0 [a]) (.mk ⟨#[108,105,115,116]⟩ 0 [y]) gs).2=true->MG names own d (matM (.mk ⟨#[108,105,115,116]⟩ 0 [a]) (.mk ⟨#[108,105,115,116]⟩ 0 [y]) gs).1)/\Kq (·=mb) w w')/\w'.cell? ⟨b,1,none⟩=some p/\w'.cell? ⟨c,1,none⟩=some q):=by
    have O:Kept w w.drew:=(Kept.refl w).drw;refine(ih w.drew mb vg vs kv gs _ _ _ _ y p q ⟨⟨h.ng.1,h.ng.2⟩,⟨h.ns.1,h.ns.2⟩,h.nd,⟨h.sm.mp,h.sm.nd⟩,h.mg⟩ (V.keep (PKeep.kept O)) (Y.keep (PKeep.kept O)) ac).mono ?_
    rintro e w' ⟨d,rfl,U,M,I⟩;have ah:=(I.block b (Vah E) (fun z=>by rw[show b=mb from z,aa]at E;cases E)).trans E;have ae:=(I.block c (Vah D) (fun z=>by rw[show c=mb from z,aa]at D;cases D)).trans D;refine⟨_,rfl,⟨d,by rw[L.1],U,fun z=> ?_,(Kq.of_kept O).trans I⟩,by simp[Vet,ah],by simp[Vet,ae]⟩
    rw[L.1]at z;rw[L.2 z];exact M z
   refine(Jhs w mb b c p q _ V.iface Y.iface (by simp[Vet,E]) (by simp[Vet,D]) HM).mono ?_
   rintro e w' ⟨r,rfl,hR⟩;obtain⟨d,e1,U,M,I⟩:=hR.out;exact⟨d,by rw[e1],U,M,I⟩
variable {S:World->Prop}{fuel:Nat}
theorem wtk{P:Program}{E:Region.Mode}{d:Array Oper}{Q:Exit->Act->World->Prop}(i:Nat)(G:Oper){D:Array Bool}{a:Act}(J:YieldsIf P d S G v a)(h:wpAnyH P E d Q S fuel (D.setIfInBounds i true) (a.put G.dst v) w)(hi:d[i]? =some G:=by rfl)(O:Region.noSelect d=true:=by kernel_rfl)(I:Region.free E d D i=true:=by kernel_rfl)(M:(Region.ready E d D).contains i=true:=by kernel_rfl)(T:∀c a w,Q (.panic c) (a.put G.dst v) w->Q (.panic c) a w:=by exact fun _ _ _ h=>h)(L:S w:=by assumption):wpAnyH P E d Q S (fuel+1) D a w:=
 wpAnyH_take hi O I M T J L h
end Go.Proofs.YtleenphlgbklmaaGreatDoor
