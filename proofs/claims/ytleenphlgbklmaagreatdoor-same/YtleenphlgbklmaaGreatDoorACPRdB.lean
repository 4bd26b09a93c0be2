import Derived.Test.YtleenphlgbklmaaGreatDoorACPCm
set_option linter.unusedVariables false
set_option linter.unusedSimpArgs false
set_option maxRecDepth 100000
set_option maxHeartbeats 8000000
namespace Go.Proofs.YtleenphlgbklmaaGreatDoor
open Go.RowKit
open Value renaming string → Vet
open Kept renaming alloc → Veu
open World renaming cell? → Vev
open Tryz
variable {ad:List Nat}{u v:Value}{w':World}{P:Nat->Prop}{k':Nat}{T:TypeId}
def SCg(gv:Gv)(f:X->List Bd->Option (Option (Nat×BA))):Prop:=∀(names:List BA) (kids:List X) (loc:Nat) (own:List Bd) (r:Option (Nat×BA)),grpC f names kids own=some r->∀(w:World) (ad:List Nat) (d:Nat) (p:Option Addr) (gm:Nat),PX w (fun _=>True) (.mk ⟨#[114,101,99]⟩ names kids loc) (.iface 274 (.pointer (some ⟨d,0,none⟩)))->CI w ad own gv p gm->
 Calls prog 126 #[.iface 274 (.pointer (some ⟨d,0,none⟩)),.agg #[.pointer p,.map (some gm)]] w (ChO w r)
variable {rk:Bool}{gv:Gv}
theorem JqG(E:rk=true->∀f,SCk gv f->SCg gv f):∀n,SCk gv (fun x own=>chkF rk gv n x own):=by
 intro n
 induction n with
 |zero=>
  intro x own r h;have h:(none:Option (Option (Nat×BA)))=some r:=h
  cases h
 |succ n I=>
  intro x own r h w ad v p gm hx G
  cases hx with
  |name m loc b J _ d=>
   have e:chkF rk gv (n+1) (.mk ⟨#[110,97,109,101]⟩ [m] [] loc) own=match JaJ m gv own with|some _=>some none|none=>if m.size<=1000 then some (some (loc,m))else none:=rfl
   simp only[e]at h
   split at h
   .rename_i q D;simp only[Vaa]at h;subst h;exact Jjz G d (by rw[D];rfl)
   .rename_i D
    split at h
    .rename_i hl;simp only[Vaa]at h;subst h;exact Jjy G (by omega) d (by rw[D];rfl)
    .simp at h
  |num m loc b J _ d=>
   have e:chkF rk gv (n+1) (.mk ⟨#[110,117,109]⟩ [m] [] loc) own=some none:=rfl;simp only[e,Vaa]at h;subst h;exact c_num
  |fn m x loc b q J _ d D=>exact c_fun I h G d D
  |ite x y z loc b q r s _ d D E hs=>exact c_if I h G d D E hs
  |lt m x y loc b q r J _ d D E=>exact c_let I h G d D E
  |app x y loc b q r _ d D E=>exact c_app I h G d D E
  |pair x y loc b q r _ d D E=>exact JqD I h G d D E
  |rc names kids y loc b nv vv q ps V L h3 U Y h6 W h8 h9 O Z T=>
   have e:chkF rk gv (n+1) (.mk ⟨#[114,101,99]⟩ names (kids++ [y]) loc) own=if rk=true then grpC (fun x own=>chkF rk gv n x own) names (kids++ [y]) own else none:=by
    cases rk<;>rfl
   simp only[e]at h
   split at h
   .rename_i M;exact E M _ I names _ loc own r h w ad b p gm (.rc names kids y loc b nv vv q ps V L h3 U Y h6 W h8 h9 O Z T) G
   .simp at h
theorem JiS(t:BA):kwIn Jad t=(Jag t ⟨#[102,117,110]⟩||(Jag t ⟨#[108,101,116]⟩||(Jag t ⟨#[114,101,99]⟩||(Jag t ⟨#[97,110,100]⟩||(Jag t ⟨#[105,110]⟩||(Jag t ⟨#[105,102]⟩||(Jag t ⟨#[116,104,101,110]⟩||Jag t ⟨#[101,108,115,101]⟩))))))):=by
 simp[kwIn,Jad]
theorem Jhx(t:BA)(w:World):Calls prog 198 #[.string t] w fun e w'=>e= .returned (.bool (kwIn Jad t))/\w'=w:=by
 rw[JiS];have e:∀q:BA,Jag t q=(t.toList==q.data.toList):=fun q=>by unfold Jag;rw[VaL]
 simp only[e];clear e
 go_enter func198,ntmps198
 go_wp2
 all_goals
  go_ret
  refine⟨?_,rfl⟩
  simp_all
theorem JmE(names:List BA)(x:BA)(w:World)(G:Value)(h:w.ownsRow 0 9 1 G names.length (names.map Vet)):
  Calls prog 226 #[G,.string x] w fun e w'=>(∃r:Int,e= .returned (.int .i64 r)/\decide (0<=r)=names.any (fun m=>Jag m x))/\w'=w:=by
 have J:w.ownsRow 0 9 1 G (names.map Vet).length (names.map Vet):=by rw[Vbe];exact h
 obtain⟨ao,cap,rfl,E⟩:=Jdp J
 have ae:names.length<=9223372036854775807:=by
  rcases h.2 with⟨V,e2⟩|⟨g,Y,aa,V,_,_,e4,T,_⟩
  .omega
  .unfold maxLen at T;omega
 rw[Vbe]at E⊢;clear h J
 go_enter func226,ntmps226
 go_wp2
 go_loop [8] (fun i=>∃q:Nat,q<=names.length/\i= .int .i64 q/\(names.take q).any (fun m=>Jag m x)=false) (fun i=>names.length-(intOf i).toNat)
 case atStart=>exact⟨0,VaN _,rfl,by simp⟩
 case round=>
  obtain⟨q,Z,rfl,d⟩:=hrel
  by_cases D:q<names.length
  .obtain⟨g,rfl,M⟩:=E q D;have ac:w.cell? ⟨g,q,none⟩=some (.string names[q]):=by rw[M];simp[D]
   have U:Hid ((names.take (q+1)).any (fun m=>Jag m x)=Jag names[q] x):=by
    show _=_;rw[Va9 D,List.any_append,d];simp
   have W:Hid (Jag names[q] x=true->names.any (fun m=>Jag m x)=true):=fun e=>Vci.2 ⟨_,Vbw D,e⟩
   have L:Hid (Jag names[q] x=(x.toList==(names[q]).toList)):=by
    show _=_;unfold Jag;rw[VaL,VaL,Bool.beq_comm]
   clear M E d;generalize names[q]=y at*
   cases I:(x.toList==y.toList)
   .go_wp2
    go_round
    case rel=>exact⟨q+1,by omega,by go_num,by rw[U.out,L.out,I]⟩
    case measure=>simp[intOf];omega
   .go_wp2
    go_ret
    exact⟨⟨q,rfl,by rw[W.out (by rw[L.out,I])];simp⟩,rfl⟩
  .have O:q=names.length:=by omega
   have hk:Hid (names.any (fun m=>Jag m x)=false):=by show _=_;rw[O,VbA]at d;exact d
   clear E d O
   go_wp2
   go_ret
   exact⟨⟨-1,rfl,by rw[hk.out];rfl⟩,rfl⟩
theorem JmB(names:List BA)(x:BA)(w:World)(d:Value)(h:w.ownsRow 0 9 1 d names.length (names.map Vet)):
  Calls prog 210 #[d,.string x] w fun e w'=>e= .returned (.bool (names.any (fun m=>Jag m x)))/\w'=w:=by
 have H:Hid _:=JmE names x w d h
 obtain⟨G,cap,rfl⟩:∃G cap,d= .slice G names.length cap:=by
  rcases h.2 with⟨D,J⟩|⟨g,cap,M,D,_⟩
  .exact⟨none,0,by rw[D,J]⟩
  .exact⟨_,cap,D⟩
 clear h
 go_enter func210,ntmps210
 go_wp2_with fail
 refine Vac H.out ?_
 rintro e w' ⟨⟨r,rfl,I⟩,E⟩;rw[E];have L:Hid _:=I;clear H E I
 go_wp2
 go_ret
 exact⟨by rw[<-L.out];rfl,rfl⟩
def Jhj(t:BA):Bool:=if t.size=0 then false else if 8<t.size then false else if lowI (chr t 0)then(if run lfI t 0=t.size then !(kwIn Jad t)else false)else false
theorem Jnn(t:BA):(t.toList== [])=decide (t.size=0):=by
 rw[VaL];have e:t.data.toList.length=t.size:=by rw[Vbx];rfl
 cases h:t.data.toList with
 |nil=>
  rw[h]at e;have:t.size=0:=by simpa using e.symm
  rw[this];rfl
 |cons a l=>
  rw[h]at e;have: ¬t.size=0:=by rw[<-e];simp
  rw[VdQ this];rfl
theorem JiR(t:BA)(w:World)(ht:t.size<=1000000):Calls prog 163 #[.string t] w fun e w'=>e= .returned (.bool (Jhj t))/\w'=w:=by
 have I:=Jnn t;unfold Jhj
 by_cases G:t.size=0
 .simp only[G,Va0];rw[G]at I;simp only[decide_true]at I
  go_enter VdA,Vdo
  go_wp2
  go_ret
  exact⟨rfl,rfl⟩
 .simp only[G,VaS];simp only[G,decide_false]at I
  by_cases O:8<t.size
  .simp only[O,Va0];have U: ¬(t.size:Int)<=8:=by omega
   go_enter VdA,Vdo
   go_wp2
   go_ret
   exact⟨rfl,rfl⟩
  .simp only[O,VaS];have U:(t.size:Int)<=8:=by omega
   have D:Hid _:=fun c=>JaN c w
   have hp:0<t.size:=by omega
   have M:((t[0]'hp).toNat:Int)=chr t 0:=by simp[chr,hp]
   have E:Hid _:=Jhm t (by omega) w;have T:Hid _:=Jhx t w
   cases J:lowI (chr t 0)with
   |false=>
    simp only[Vao,VaS]
    go_enter VdA,Vdo
    go_wp2_with fail
    refine Vac (D.out _) ?_
    rintro e w' ⟨rfl,d⟩;rw[d,J];clear d w' D M
    go_wp2
    go_ret
    exact⟨rfl,rfl⟩
   |true=>
    simp only[Va0]
    by_cases L:run lfI t 0=t.size
    .simp only[L,Va0];rw[L]at E
     go_enter VdA,Vdo
     go_wp2_with fail
     refine Vac (D.out _) ?_
     rintro e w' ⟨rfl,d⟩;rw[d,J];clear d w' D M
     go_wp2_with fail
     refine Vac E.out ?_
     rintro e w' ⟨rfl,d⟩;rw[d];clear d w' E
     go_wp2_with fail
     refine Vac T.out ?_
     rintro e w' ⟨rfl,d⟩;rw[d];clear d w' T
     go_wp2
     go_ret
     exact⟨rfl,rfl⟩
    .simp only[L,VaS];have V: ¬((run lfI t 0:Nat):Int)=(t.size:Int):=by omega
     go_enter VdA,Vdo
     go_wp2_with fail
     refine Vac (D.out _) ?_
     rintro e w' ⟨rfl,d⟩;rw[d,J];clear d w' D M
     go_wp2_with fail
     refine Vac E.out ?_
     rintro e w' ⟨rfl,d⟩;rw[d];clear d w' E
     go_wp2
     go_ret
     exact⟨rfl,rfl⟩
def AR(σ:St):Prop:=∀(i:Nat) (nd:Nd),σ[i]? =some nd->nd.s=none
variable {σ:St}
theorem SX.sw{w:World}(h:SX w ad σ)(G:AR σ):SW w ad σ:=by
 obtain⟨τ,E,d⟩:=h
 have:τ=σ:=by
  apply List.ext_getElem?
  intro i
  cases hi:σ[i]? with
  |none=>
   rw[List.getElem?_eq_none_iff]at hi⊢;rw[d.len];exact hi
  |some nd=>
   have D:=G i nd hi;obtain⟨nk,s⟩:=nd;simp only at D;subst D;exact d.root hi
 rw[<-this];exact E
theorem SW.sx{w:World}(h:SW w ad σ):SX w ad σ:=⟨σ,h,Ev.refl _⟩
theorem AR.ws(h:AR σ):WS σ:=fun i nk r hi=>by
 have:=h i _ hi;simp at this
theorem AR.add(h:AR σ){u:St}(d:∀nd,nd∈u->nd.s=none):AR (σ++u):=fun i nd hi=>by
 by_cases e:i<σ.length
 .rw[Vak e]at hi;exact h i nd hi
 .rw[VaU (by omega)]at hi;exact d nd (Vbn hi)
variable {vb:List Nat}{lo hi:Nat}{t:Ty}
theorem PTyR.ar{w:World}(h:PTyR w vb lo hi t v):∀(vs:Nat) (τ:St),AR τ->AR (Idb vs t τ).2:=by
 induction h with
 |var n b lo hi E G=>intro vs τ d;rw[JcM];exact d
 |base kd lo hi E hk=>
  intro vs τ d
  rcases hk with rfl|rfl
  .rw[JcL];exact d
  .rw[JbW];exact d
 |list a b p lo m hi G L E J D=>intro vs τ d;rw[JbX];exact(D vs τ d).add (by simp)
 |pair a c b p q lo m k hi G L M E J D I=>intro vs τ d;rw[JbY];exact(I vs _ (D vs τ d)).add (by simp)
 |fn a c b p q lo m k hi G L M E J D I=>intro vs τ d;rw[Jdy];exact(I vs _ (D vs τ d)).add (by simp)
theorem JrJ(names:List BA):∀nd,nd∈vrs names->nd.s=none:=by
 intro nd h;simp only[vrs,Vbj]at h;obtain⟨n,_,rfl⟩:=h;rfl
theorem AR.mark(h:AR σ)(r:TR):AR (JdZ σ r):=by
 unfold JdZ
 split
 .split
  .rename_i i _ nm g hi;intro j nd d
   by_cases e:i=j
   .subst e;rw[Vba (Vae.1 hi).1]at d;simp only[Vaa]at d;rw[<-d]
   .rw[VaC e]at d;exact h j nd d
  .exact h
 .exact h
theorem AR.gen:∀(n:Nat) {σ τ:St} {r:TR} {bd:List TR},AR σ->genF n σ r bd=some τ->AR τ:=by
 intro n
 induction n with
 |zero=>intro σ τ r bd _ h;simp[genF]at h
 |succ n D=>
  intro σ τ r bd h d;simp only[genF,Vab]at d;obtain⟨I,_,d⟩:=d
  split at d
  .simp only[Vaa]at d;exact d▸h
  .split at d
   .simp only[Vaa]at d;exact d▸h.mark _
   .simp only[Vab]at d;obtain⟨J,_,d⟩:=d
    split at d
    .simp only[Vaa]at d;exact d▸h
    .exact D h d
    .simp only[Vab]at d;obtain⟨G,E,d⟩:=d;exact D (D h E) d
    .simp at d
variable {names:List BA}
theorem JlM{w:World}(J:SW w ad σ)(h:PTyR w vb lo hi t v)(D:NB w vb names)(L:vb.Nodup)(G:∀c,c∈vb->lo<=c)(I:∀c,c∈ad->c<lo):
  ∃u,SW w (ad++u) (Idb σ.length t (σ++vrs names)).2/\RV (ad++u) (Idb σ.length t (σ++vrs names)).1 v/\∀c,c∈u->lo<=c:=by
 have O:=SW.vars names J D.1 D.2 L (fun c d z=>by have:=G c d;have:=I c z;omega)
 obtain⟨bl,T,r1,M⟩:=SW.adopt h σ.length (ad++vb) (σ++vrs names) O (fun n b U=>by rw[<-J.len,VaU (by omega)];simpa using U) (fun c d=>by
  simp at d
  rcases d with d|d
  .exact .inr (I c d)
  .left;obtain⟨j,E,rfl⟩:=Vbk d;have:=D.2 j (D.1▸E);have e:vb.getD j 0=vb[j]:=by simp[List.getD,E]
   rw[e]at this;exact⟨_,_,this⟩)
 refine⟨vb++bl,by rw[<-Val];exact T,by rw[<-Val];exact r1,?_⟩
 intro c d;simp at d
 rcases d with d|d
 .exact G c d
 .exact(M c d).1
variable {A:Nat->Addr}
theorem JpI{s:BA}(d:rdO s= .good t names)(w:World)(W:Glb A w):
  Calls prog 80 #[.string s] w fun e w'=>Kept w w'/\∃T u vb,e= .returned (.tuple #[.iface T u,.nilIface])/\PTyR w' vb w.heap.size w'.heap.size t (.iface T u)/\vb.Nodup/\NB w' vb names/\(∀c,c∈vb->w.heap.size<=c):=by
 unfold rdO at d
 by_cases D:300<s.size
 .rw[Vat D]at d
  cases d
 .rw[Vaq D]at d;have D:s.size<=300:=by omega
  have hE:PEnv s Jas (lexT s):=⟨D,JcH,by unfold lexT;rw[JdF]⟩
  cases E:Jaq (lexT s) (2*(lexT s).length+2) [] 0 (-1)with
  |none=>rw[E]at d;cases d
  |some q=>
   obtain⟨O,U,K,B⟩:=q;rw[E]at d;simp only at d
   split at d
   .cases d
   .rename_i hF
    split at d
    .cases d
    .rename_i Y;simp only[RdO.good.injEq]at d;obtain⟨rfl,rfl⟩:=d;refine(JeD hE w W _ O U K B E).mono ?_
     rintro e w' ⟨hk,h⟩
     rcases h with⟨b,l,Z,_⟩|⟨_,I,_⟩|⟨_,_,v,vb,I,G,M,J,L⟩
     .omega
     .omega
     .obtain⟨T,u,rfl⟩:=G.iface;exact⟨hk,T,u,vb,I,G,J,L,fun c V=>(M c V).2⟩
def gvF:List (BA×BA)->Gv->St->Option (Gv×St)
 | [],gv,σ=>some (gv,σ)
 |(n,ty)::d,gv,σ=>if Jhj n&&(Jcq n gv).isNone then match rdO ty with
  | .good t names=>(genF fuN (Idb σ.length t (σ++vrs names)).2 (Idb σ.length t (σ++vrs names)).1 []).bind fun D=>gvF d (gv++ [(n,(Idb σ.length t (σ++vrs names)).1)]) D
  |_=>none
  else none
variable {gm:Nat}{g:Gv}{n:BA}{r:TR}
theorem Jrl{w:World}(I:SX w ad σ)(h:GM w gm ad g)(G:RV ad r v)(L:Jcq n g=none):
  ∃w',(Instr.mapUpdate 242 (.map (some gm)) (.string n) v).run prog w= .ok () w'/\GM w' gm ad (g++ [(n,r)])/\SX w' ad σ/\Kt [] (fun q=>q=gm) w w':=by
 obtain⟨l,d,E⟩:=h;have D:=JjS n l 0;rw[(E.look (n:=n) 0).2 L]at D;have J:(Instr.checkKey false 10000 9 (.string n)).run prog w= .ok () w:=Vbz VaR (by simp[MapKept.IsKey]) false 9999
 have e:(gE l 0).toArray.push {key:= .string n,val:=v,born:=l.length}=(gE (l++ [(n,v)]) 0).toArray:=by
  rw[JoR];simp
 refine⟨Idd w gm (.map (gE (l++ [(n,v)]) 0).toArray (l.length+1)),?_,⟨l++ [(n,v)],?_,E.snoc G⟩,I.mapSet d _,Kt.mapset d _⟩
 .rw[<-e];simp[Idd,Instr.mapUpdate,VaM underlying242,VaQ d,J,VbC VaR D,VbB _ d,Result.andThen]
 .rw[JaV _ _ _ (Vah d)];simp
theorem Ibc(w:World):(Instr.makeMap 242 none).run prog w= .ok (.map (some w.heap.size)) (w.alloc (.map #[] 0)):=by kernel_rfl
theorem GM.none(w:World)(ad:List Nat):GM (w.alloc (.map #[] 0)) w.heap.size ad []:=⟨[],Vag _ _,trivial⟩
variable {l m:List (List UInt8)}
theorem JeZ(h:l.Perm m)(G:l.Pairwise (fun x y=>decide (x<=y)=true))(D:m.Pairwise (fun x y=>decide (x<=y)=true)):l=m:=
 List.Perm.eq_of_pairwise (fun a b _ _ d E=>List.le_antisymm (VdB d) (VdB E)) G D h
variable {mb:Nat}{kv:List (BA×BA)}{ty:BA}
theorem SM.at{w:World}(h:SM w mb kv)(D:(n,ty)∈kv):(Instr.lookup 94 (.map (some mb)) (.string n) false).run prog w= .ok (.agg #[.string ty]) w:=by
 have:=Jfh 94 VbZ w mb kv n h;rw[this];obtain⟨j,d,e⟩:=Vbk D
 have:kv.findIdx? (fun x=>Jag x.1 n)=some j:=by
  rw[VaZ];refine⟨d,(Jaf _ _).2 (by rw[e]),?_⟩
  intro i hi z;have z:=(Jaf _ _).1 z;have:=(VaF.1 h.nd) i j (by simp;omega) (by simpa using d) hi;simp at this;rw[e]at this;exact this z
 rw[this];simp[kAt,List.getD,d,e]
theorem JlL(g q:Nat):((⟨g,0,none⟩:Addr).add q)=⟨g,q,none⟩:=by unfold Addr.add;split<;>simp_all
variable {w2 wr:World}{S:Nat->Prop}
theorem Kt.keptBy{w:World}(h:Kept w w2)(k:Kt [] S w2 wr)(D:∀q,S q->w.heap.size<=q):Kept w wr:=⟨k.os.trans h.os,k.output.trans h.output,Vas h.size k.size,fun q d=>by
 have e:w2.heap[q]? =some (w2.heap[q]'(Va6 d h.size)):=by simp
 rw[<-h.block q d,e];exact k.blk0 q _ e (fun z=>by have:=D q z;omega) (by simp)⟩
variable {wx:World}
theorem Kt.fresh{w:World}(h:Kt [] S w wr)(k:Kt ad (fun _=>False) wr wx)(E:∀q,q∈ad->w.heap.size<=q):Kt [] S w wx:=⟨k.os.trans h.os,k.output.trans h.output,Vas h.size k.size,fun q o d D ht=>k.blk0 q o (h.blk0 q o d D ht) id (fun _ z=>by have:=E q z;have:=Vah d;omega)⟩
variable {kvs:List (BA×BA)}
theorem Jl3{w:World}{em:Nat}(hG:Glb A w)(hS:SM w em kv)(hl:kv.length<=1000)(aw:∀y,y∈kv->y.1.size<=1000)(hp:kvs.Perm kv)(a2:(kvs.map fun y=>y.1.data.toList).Pairwise (fun x y=>decide (x<=y)=true))(h:gvF kvs [] []=some (gv,σ)):
  Calls prog 125 #[.map (some em)] w fun e w'=>∃gm ad,e= .returned (.tuple #[.agg #[.pointer none,.map (some gm)],.nilIface])/\SX w' ad σ/\AR σ/\GM w' gm ad gv/\(∀a,a∈ad->w.heap.size<=a)/\Kept w w':=by
 have m1:=Ibc (w.alloc (.cells #[.pointer none,.map none] 244));have ay:Kept w ((w.alloc (.cells #[.pointer none,.map none] 244)).alloc (.map #[] 0)):=(Veu _ _).trans (Veu _ _);have aN:((w.alloc (.cells #[.pointer none,.map none] 244)).alloc (.map #[] 0)).heap[w.heap.size]? =some (.cells #[.pointer none,.map none] 244 (0,0)):=(Veu _ _).blk (Vag _ _);have ax:=GM.none (w.alloc (.cells #[.pointer none,.map none] 244)) [];have aK:(w.alloc (.cells #[.pointer none,.map none] 244)).heap.size=w.heap.size+1:=by simp
 rw[aK]at ax m1
 go_enter func125,ntmps125
 go_wp2_with fail
 clear m1 aK;generalize(w.alloc (.cells #[.pointer none,.map none] 244)).alloc (.map #[] 0)=W at*;have af:SM W em kv:=⟨ay.blk hS.mp,hS.nd⟩
 have HK:Hid _:=Jid (some em) W;have ba:Hid _:=JeQ af hl (fun y J=>by have:=aw y J;unfold maxLen;omega);have aD:Hid _:=ax;have aZ:Hid _:=ay;have aB:Hid _:=aN;clear ax ay aN;refine Vac HK.out ?_
 rintro e w2 ⟨rfl,aG⟩;rw[aG];clear HK aG w2
 go_wp2_with fail
 refine Vac ba.out ?_
 rintro e w2 ⟨v,sk,rfl,a6,aT,aj,I⟩;have I:Kept W w2:=(Veu _ _).trans I;have bb:sk=kvs.map fun y=>y.1.data.toList:=JeZ (a6.trans ((hp.map _).symm)) aT a2
 subst bb
 obtain⟨ao,cap,rfl⟩:∃ao cap,v= .slice ao kvs.length cap:=by
  rcases aj.2 with⟨rfl,q⟩|⟨g,cap,bf,rfl,_⟩
  .exact⟨none,0,by rw[Vbe]at q;rw[q]⟩
  .exact⟨_,_,by rw[Vbe]⟩
 obtain⟨g,HR⟩:∃g,Hid (∀(q:Nat) (y:BA×BA),kvs[q]? =some y->ao=some ⟨g,0,none⟩/\∃cs,w2.heap[g]? =some (.cells cs 9 (0,0))/\cs[q]? =some (.string y.1)):=by
  rcases aj.2 with⟨e1,e2⟩|⟨g,bG,bf,e1,_,Z,bH⟩
  .refine⟨0,fun q x hx=> ?_⟩
   have:=(Vae.1 hx).1;rw[Vbe]at e2;omega
  .simp only[VdC]at e1;refine⟨g,fun q y J=>⟨e1.1,_,Z,?_⟩⟩
   have h1:=VcL aj (g:=g) (by rw[e1.1];rfl) q (encStr y.1.data.toList) (by rw[VbK,VbK,J];rfl);rw[JlL]at h1;simp only[Vev,Z]at h1
   have e4:encStr y.1.data.toList= .string y.1:=by
    show Vet ⟨y.1.data.toList.toArray⟩=_;rw[Array.toArray_toList]
   rw[e4]at h1;exact h1
 have bI:kvs.length<=1000:=by rw[hp.length_eq];exact hl
 have HH:Hid _:=h;have HP:Hid _:=hp;have an:Hid _:=(⟨I.blk af.mp,af.nd⟩:SM w2 em kv)
 have bv:Hid (¬em=w.heap.size+1):=fun z=>by have:=Vah hS.mp;omega
 have bF:Hid _:=GM.kt aD.out (Kt.of_kept (ad:= []) (S:=fun _=>False) I) id;have aV:Hid _:=GM.kt aD.out (Kt.of_kept (ad:= []) (S:=fun _=>False) I) id;have av:Hid _:=aZ.out.trans I;have aR:Hid _:=I.blk aB.out;have bg:Hid _:=hG;have bD:Hid _:=aw;have bw:Hid _:=I.size;have be:Hid (w.heap.size<W.heap.size):=Vah aB.out;clear aj a6 aT a2 I af hS h hp ba aD aZ aB hG aw hl
 go_wp2_with fail
 go_loopw [14] (fun i wr=>∃(q:Nat) (gq:Gv) (O:St) (E:List Nat),q<=kvs.length/\i= .int .i64 q/\Hid (gvF (kvs.drop q) gq O=some (gv,σ))/\Hid (SX wr E O)/\Hid (AR O)/\Hid (GM wr (w.heap.size+1) E gq)/\Hid (∀a,a∈E->w2.heap.size<=a)/\Hid (Kt [] (fun q=>q=w.heap.size+1) w2 wr)) (fun i _=>kvs.length-(intOf i).toNat)
 case atStart=>exact⟨0,[],[],[],VaN _,rfl,HH.out,SW.sx ⟨rfl,VcB,fun i nk s b hi=>by simp at hi⟩,fun i nd hi=>by simp at hi,aV.out,by intro a D;simp at D,Kt.refl _ _ _⟩
 case round=>
  clear HH aV;obtain⟨q,gq,O,E,hq,rfl,HV,HX,ah,au,ak,L⟩:=hrel
  by_cases ae:q<kvs.length
  .obtain⟨⟨n,ty⟩,J⟩:∃y,kvs[q]? =some y:=⟨kvs[q],by simp[ae]⟩
   obtain⟨rfl,cs,Z,aU⟩:=HR.out q _ J
   have a9:kvs.drop q=(n,ty)::kvs.drop (q+1):=by
    rw[Vbl ae];congr 1
    rw[Vav ae]at J;simpa using J
   have aA:(n,ty)∈kv:=HP.out.mem_iff.1 (Vbn J);have d:=HV.out;rw[a9]at d;simp only[gvF]at d
   split at d
   .rename_i ac;simp only[Vaz,VcU]at ac
    split at d
    .rename_i t names a1;simp only[Vab]at d;obtain⟨σ2,am,d⟩:=d
     have aY: ¬g=w.heap.size+1:=fun z=>by
      obtain⟨l,aa,_⟩:=bF.out;rw[<-z,Z]at aa
      cases aa
     have a8:=L.out.blk g _ Z aY (by
      rintro⟨aH,e,f,U,ht⟩;simp only[VaT]at U;obtain⟨_,rfl,_⟩:=U
      rcases ht with e|e|e|e<;>cases e)
     have hc:wr.cell? ⟨g,q,none⟩=some (.string n):=by simp[Vev,a8,aU]
     have HN:Hid _:=JiR n wr (by have:=bD.out _ aA;simp at this;omega);rw[ac.1]at HN;have aJ:SM wr em kv:=⟨L.out.blk em _ an.out.mp bv.out (by rintro⟨aH,e,f,U,_⟩;cases U),an.out.nd⟩
     have bi:=aJ.at aA;have bs:=IaA ty wr;have V:Kept w wr:=Kt.keptBy av.out L.out (fun q z=>by have z:q=w.heap.size+1:=z;omega);have aS:Hid _:=JpI a1 wr (bg.out.kept V);clear aJ a8 aU Z a1 a9 aA J
     go_wp2_with fail
     refine Vac HN.out ?_
     rintro e w' ⟨rfl,aM⟩;rw[aM];clear aM w' HN
     go_wp2_with fail
     refine Vac aS.out ?_
     rintro e Y ⟨ai,T,u,vb,rfl,aq,aW,a7,a3⟩;obtain⟨ua,aE,az,a5⟩:=JlM (SX.sw (SX.kept HX.out ai) ah.out) aq a7 aW a3 (fun c hc=>SX.lt HX.out hc);have aF:AR (Idb O.length t (O++vrs names)).2:=aq.ar _ _ (ah.out.add (JrJ names));have m3:=Ibg Y;have al:Kept Y (Y.alloc (.map #[] 0)):=Veu _ _;have aQ:Hid _:=Jj0 fuN _ _ _ _ am (Y.alloc (.map #[] 0)) (E++ua) _ Y.heap.size (SX.kept aE.sx al) az (TMp.none Y _)
     have a0:Hid (∀a,a∈E++ua->w2.heap.size<=a):=fun a D=>by
      simp at D
      rcases D with D|D
      .exact ak.out a D
      .have:=a5 a D;have:=L.out.size;omega
     have a4:Hid _:=Kt.fresh L.out (Kt.of_kept (ad:= []) (S:=fun _=>False) (ai.trans al)) (by simp);have aO:Hid _:=(GM.kt au.out (Kt.of_kept (ad:= []) (S:=fun _=>False) (ai.trans al)) id).up ua;have bA:Hid _:=az;have bm:Hid _:=AR.gen fuN aF am;have bB:Hid _:=d;have bu:Hid _:=ac.2;clear aE az a5 aF al aq aW a7 a3 am d ac ai V au L ak ah HX HV aS bi bs hc aY
     go_wp2_with fail
     refine Vac aQ.out ?_
     rintro e G ⟨rfl,aL,bh,aC⟩;obtain⟨w6,bJ,aX,aI,aP⟩:=Jrl aL (GM.kt aO.out aC id) bA.out bu.out;have br:Hid _:=aI;have bC:Hid _:=aX;have bE:Hid _:=(Kt.fresh a4.out aC a0.out).trans aP;clear aL bh aC aX aI aP aQ m3 aO a4
     go_wp2
     go_roundw
     case measure=>simp[intOf];omega
     case rel=>exact⟨q+1,_,σ2,E++ua,ae,by go_num,bB.out,br.out,bm.out,bC.out,a0.out,bE.out⟩
    .simp at d
   .simp at d
  .have bk:q=kvs.length:=by omega
   have d:=HV.out;rw[bk,List.drop_length]at d;simp only[gvF,Vaa,Vaf]at d;obtain⟨rfl,rfl⟩:=d
   have ag:=L.out.blk w.heap.size _ aR.out (by show¬w.heap.size=w.heap.size+1;omega) (by
    rintro⟨aH,e,f,U,ht⟩;simp only[VaT]at U;obtain⟨_,rfl,_⟩:=U
    rcases ht with e|e|e|e<;>cases e)
   have c0:wr.cell? ⟨w.heap.size,0,none⟩=some (.pointer none):=by simp[Vev,ag]
   have c1:wr.cell? ⟨w.heap.size,1,none⟩=some (.map none):=by simp[Vev,ag]
   have f0:∀j,wr.frozen? ⟨w.heap.size,j,none⟩=false:=fun j=>by simp[World.frozen?,ag]
   have V:Kept w wr:=Kt.keptBy av.out L.out (fun q z=>by have z:q=w.heap.size+1:=z;omega);clear HV an HP HR aR
   go_wp2_with fail
   obtain⟨G,M⟩:∃G,G=(wr.setCell ⟨w.heap.size,0,none⟩ (.pointer none)).setCell ⟨w.heap.size,1,none⟩ (.map (some (w.heap.size+1))):=⟨_,rfl⟩
   have hF:G.heap[w.heap.size]? =some (.cells #[.pointer none,.map (some (w.heap.size+1))] 244 (0,0)):=by
    rw[M];simp[World.setCell,ag,Vay]
   have ho:∀k,k≠w.heap.size->G.heap[k]? =wr.heap[k]? :=fun k hk=>by
    rw[M];exact(Vaj _ _ _ k (fun z=>hk z)).trans (Vaj _ _ _ k (fun z=>hk z))
   have bp:Kept w G:=⟨by rw[M];exact V.os,by rw[M];exact V.output,by rw[M];simpa using V.size,fun k hk=>(ho k (by omega)).trans (V.block k hk)⟩
   have bj:SX G E O:=SX.keep HX.out (fun b o hb bn=>(ho b (by have:=ak.out b hb;have:=bw.out;have:=be.out;omega)).trans bn)
   have bc:GM G (w.heap.size+1) E gq:=by
    obtain⟨l,aa,bx⟩:=au.out;exact⟨l,(ho _ (by omega)).trans aa,bx⟩
   rw[<-M];clear M;have d0:G.cell? ⟨w.heap.size,0,none⟩=some (.pointer none):=by simp[Vev,hF]
   have d1:G.cell? ⟨w.heap.size,1,none⟩=some (.map (some (w.heap.size+1))):=by simp[Vev,hF]
   exact VaI (v:= .tuple #[.agg #[.pointer none,.map (some (w.heap.size+1))],.nilIface]) (by simp[results,results125,go_sem,d0,d1]) rfl ⟨_,E,rfl,bj,ah.out,bc,fun a D=>by have:=ak.out a D;have:=av.out.size;omega,bp⟩
theorem PAt.kp{w:World}{rb:Nat}{s:BA}{L:List Tk}{k:Nat}(h:PAt w rb s L k)(hk:Kp (fun _=>False) w w'):PAt w' rb s L k:=by
 obtain⟨kd,d,D⟩:=h.ex;exact⟨⟨kd,hk.blk d (fun z=>z),D⟩,h.lt,h.nn⟩
theorem Ja6{w:World}{rb:Nat}{s:BA}{L:List Tk}{k:Nat}(h:PAt w rb s L k):∃w0,w.alloc (.cells #[.pointer (some ⟨rb,0,none⟩)] 178)=w0/\Kp (fun _=>False) w w0/\w0.heap[w.heap.size]? =some (.cells #[.pointer (some ⟨rb,0,none⟩)] 178 (0,0))/\PAt w0 rb s L k/\rb<w.heap.size/\w0.cell? ⟨w.heap.size,0,none⟩=some (.pointer (some ⟨rb,0,none⟩)):=by
 have d:Kp (fun _=>False) w (w.alloc (.cells #[.pointer (some ⟨rb,0,none⟩)] 178)):=(Kp.refl _ _).alloc _;have D:(w.alloc (.cells #[.pointer (some ⟨rb,0,none⟩)] 178)).heap[w.heap.size]? =some (.cells #[.pointer (some ⟨rb,0,none⟩)] 178 (0,0)):=Vag _ _;exact⟨_,rfl,d,D,h.kp d,h.lt',by simp only[Vev,D];rfl⟩
section
variable {s:BA}{L:List Tk}(hE:PEnv s Jad L){w:World}{rb k:Nat}
include hE
theorem JkF(h:PAt w rb s L k):Calls prog 209 #[.agg #[.pointer (some ⟨rb,0,none⟩)]] w fun e w'=>e= .returned (.bool (isM L ⟨#[110,97,109,101]⟩ k (-1)))/\Kp (fun _=>False) w w':=by
 obtain⟨w0,Y,D,U,J,W,T⟩:=Ja6 h;obtain⟨kd,I,E⟩:=J.ex;have G:=(JdP hE h.lt E).1;rw[JcQ];obtain⟨_,Z,c2,V⟩:=I.c;have M:Hid _:=G;clear G I E h J c2;generalize(tkAt L k).s=t at*
 by_cases d:kd=1
 .subst d
  go_enter func209,ntmps209
  go_wp2_with (go_at_call 198;refine(Jhx _ _).mono ?_;rintro e w' ⟨rfl,rfl⟩)
  go_ret
  exact⟨by rw[<-M.out];rfl,D⟩
 .have hz:((kd:Int)==1)=false:=by simp;omega
  have O:Hid ((kd==1)=false):=by show _=_;simp[d]
  clear d
  go_enter func209,ntmps209
  go_wp2_with (go_at_call 198;refine(Jhx _ _).mono ?_;rintro e w' ⟨rfl,rfl⟩)
  go_ret
  exact⟨by rw[<-M.out,O.out];rfl,D⟩
theorem Jey(h:PAt w rb s L k):Calls prog 178 #[.agg #[.pointer (some ⟨rb,0,none⟩)]] w fun e w'=>e= .returned (.bool (isM L ⟨#[110,97,109,101]⟩ k (-1)||isM L ⟨#[110,117,109]⟩ k (-1)||isM L ⟨#[40]⟩ k (-1)))/\Kp (fun _=>False) w w':=by
 obtain⟨w0,ae,M,aa,d,ac,Z⟩:=Ja6 h;obtain⟨kd,I,G⟩:=d.ex;have E:=(JdP hE h.lt G).2.1;rw[<-JcQ]at E;obtain⟨_,U,c2,c3⟩:=I.c;have J:Hid _:=JkF hE d;have HI:Hid (∀w',Kp (fun _=>False) w0 w'->Calls prog 129 #[.pointer (some ⟨rb,0,none⟩),.string ⟨#[40]⟩] w' fun e Y=>e= .returned (.bool (isM L ⟨#[40]⟩ k (-1)))/\Y=w'):=fun w' hk=>Jbz hE (d.kp hk) ⟨#[40]⟩ (.inr (.inr ⟨40,rfl,rfl⟩))
 have T:Hid (∀w',Kp (fun _=>False) w0 w'->w'.cell? ⟨rb,1,none⟩=some (.int .i64 kd)/\w'.cell? ⟨w.heap.size,0,none⟩=some (.pointer (some ⟨rb,0,none⟩))):=fun w' hk=>⟨hk.cell U (fun z=>z),hk.cell Z (fun z=>z)⟩
 have HZ:Hid (((kd:Int)==2)=isM L ⟨#[110,117,109]⟩ k (-1)):=by
  show _=_;rw[<-E]
  by_cases q:kd=2
  .subst q;rfl
  .have e1:((kd:Int)==2)=false:=by simp;omega
   have O:(kd==2)=false:=by simp[q]
   rw[e1,O]
 clear E I G h d c2;generalize isM L ⟨#[110,97,109,101]⟩ k (-1)=b1 at*;generalize isM L ⟨#[110,117,109]⟩ k (-1)=V at*;generalize isM L ⟨#[40]⟩ k (-1)=b3 at*
 cases b1<;>cases V<;>have hz:=HZ.out
 all_goals
  go_enter func178,ntmps178
  go_wp2_with fail
  refine Vac J.out ?_
  rintro e w1 ⟨rfl,D⟩;obtain⟨r1,r2⟩:=T.out w1 D;have W:Hid _:=HI.out w1 D;clear J
  go_wp2_with (go_at_call 129;refine Vac W.out ?_;rintro e w' ⟨rfl,rfl⟩)
  go_ret
  exact⟨by first|rfl|simp,M.trans D⟩
theorem Jip(h:PAt w rb s L k)(names:List BA)(nv:Value)(O:w.ownsRow 0 9 1 nv names.length (names.map Vet)):
  Calls prog 174 #[.agg #[.pointer (some ⟨rb,0,none⟩)],nv] w fun e w'=>PRet (fun _ v=>v= .string (tkAt L k).s/\Wd (tkAt L k).s) w rb s L (Jai L ⟨#[110,97,109,101]⟩ k (-1)) (dupB names (tkAt L k).s (tkAt L k).loc (Jab L ⟨#[110,97,109,101]⟩ k (-1))) e w':=by
 obtain⟨ao,cap,rfl⟩:∃ao cap,nv= .slice ao names.length cap:=by
  rcases O.2 with⟨T,e2⟩|⟨g,cap,ak,T,_⟩
  .exact⟨none,0,by rw[T,e2]⟩
  .exact⟨_,cap,T⟩
 obtain⟨w0,am,ag,aj,I,al,a0⟩:=Ja6 h;obtain⟨kd,hr,W⟩:=I.ex;have V:=(JdP hE h.lt W).2.2;obtain⟨_,c1,c2,c3⟩:=hr.c;have G:Hid _:=JkF hE I;have Y:Hid (∀w',Kp (fun _=>False) w0 w'->Calls prog 210 #[.slice ao names.length cap,.string (tkAt L k).s] w' fun e M=>e= .returned (.bool (names.any (fun m=>Jag m (tkAt L k).s)))/\M=w'):=fun w' hk=>JmB names _ w' _ (Jbp (P:=fun _=>True) (fun b _ hb=>(ag.trans hk).block b hb (fun z=>z)) (fun _ _=>trivial) O)
 have HX:Hid (∀w',Kp (fun _=>False) w0 w'->Calls prog 134 #[.pointer (some ⟨rb,0,none⟩)] w' fun e M=>ThrS w' (tkAt L k).loc e M):=fun w' hk=>(by obtain⟨kdx,T,_⟩:=(I.kp hk).ex;exact JeC w' rb s _ kdx _ T)
 have HR:Hid (∀w',Kp (fun _=>False) w0 w'->w'.cell? ⟨w.heap.size,0,none⟩=some (.pointer (some ⟨rb,0,none⟩))):=fun w' hk=>hk.cell a0 (fun z=>z)
 have ah:∀w',Kp (fun _=>False) w0 w'->Kq (·=rb) w w':=fun w' hk=>Kq.of_kp (ag.trans hk) (fun _ z=>z.elim)
 have U:Hid _:=ah;clear ah
 cases E:isM L ⟨#[110,97,109,101]⟩ k (-1)
 .rw[(JaO E).1,(JaO E).2,JjF (by omega)];rw[E]at G;clear hr W h I c2 V O
  go_enter func174,ntmps174
  go_wp2_with fail
  refine Vac G.out ?_
  rintro e w1 ⟨rfl,d⟩;have r1:=HR.out w1 d;clear G
  go_wp2_with fail
  refine Vac (HX.out w1 d) ?_
  rintro e w2 ⟨b,D,ae,ac,aa⟩;rw[D];clear D
  go_wp2
  exact⟨rfl,PRet.thr (ThrX.before (ThrX.of ⟨b,rfl,ae,ac,aa⟩) (U.out w1 d)) (Jha (by omega)) (by omega)⟩
 .have V:=V (.inl (Ja4 E));have hk:=Jar hE.good h.lt E (by decide) (by decide);rw[(Jaw E).1,(Jaw E).2];rw[E]at G;have af:names.any (fun m=>m.data.toList==(tkAt L k).s.data.toList)=names.any (fun m=>Jag m (tkAt L k).s):=rfl;unfold dupB;rw[af]
  cases hd:names.any (fun m=>Jag m (tkAt L k).s)
  .rw[Vaq (by simp)];have HA:Hid (∀w',Kp (fun _=>False) w0 w'->Calls prog 128 #[.pointer (some ⟨rb,0,none⟩)] w' fun e M=>PRet (fun _ v=>v= .tuple #[]) w' rb s L (k+1) (-1) e M):=fun w' ai=>Jfg hE (I.kp ai) hk
   rw[hd]at Y;clear hr W h I c2 O af
   go_enter func174,ntmps174
   go_wp2_with fail
   refine Vac G.out ?_
   rintro e w1 ⟨rfl,d⟩;have r1:=HR.out w1 d;clear G
   go_wp2_with fail
   refine Vac (Y.out w1 d) ?_
   rintro e w' ⟨rfl,J⟩;rw[J];clear J w'
   go_wp2_with fail
   refine Vac (HA.out w1 d) ?_
   intro e w2 Z
   by_cases hz:0<=bz L (k+1) (-1)
   .obtain⟨b,D,hx⟩:=Z.2 hz;rw[D];clear D Z
    go_wp2
    exact⟨rfl,PRet.thr (ThrX.before ⟨b,rfl,hx⟩ (U.out w1 d)) rfl hz⟩
   .obtain⟨_,v,D,hv,hP,hK⟩:=Z.1 (by omega);subst hv;rw[D];clear D Z
    go_wp2
    go_ret
    exact PRet.ret (v:= .string (tkAt L k).s) ⟨rfl,V⟩ hP ((U.out w1 d).trans hK)
  .rw[Vat (by simp)];rw[hd]at Y;clear hr W h I c2 O af
   go_enter func174,ntmps174
   go_wp2_with fail
   refine Vac G.out ?_
   rintro e w1 ⟨rfl,d⟩;have r1:=HR.out w1 d;clear G
   go_wp2_with fail
   refine Vac (Y.out w1 d) ?_
   rintro e w' ⟨rfl,J⟩;rw[J];clear J w'
   go_wp2_with fail
   refine Vac (HX.out w1 d) ?_
   rintro e w2 ⟨b,D,ae,ac,aa⟩;rw[D];clear D
   go_wp2
   exact⟨rfl,PRet.thr (ThrX.before (ThrX.of ⟨b,rfl,ae,ac,aa⟩) (U.out w1 d)) (Jha (by omega)) (by omega)⟩
end
theorem JoF(x:X):dp x<=tw x:=by
 induction x using X.ind with
 |h op names kids loc E=>
  have h:∀d:List X,(∀y,y∈d->dp y<=tw y)->dps d<=tws d:=by
   intro d
   induction d with
   |nil=>intro _;simp[dps]
   |cons y I D=>
    intro h;have L:=h y (by simp);have J:=D (fun z G=>h z (by simp[G]));simp only[dps,tws];omega
  have:=h kids E;simp only[dp,tw];omega
variable {x:X}
theorem PX.kq{w:World}{rb:Nat}(h:PX w P x v)(D:∀b,P b->b≠rb)(hk:Kq (·=rb) w w'):PX w' P x v:=h.keep (fun b E d=>hk.block b d (fun z=>D b E z))
def QX(w0:World)(x:X):World->Value->Prop:=fun w' v=>PX w' (fun b=>w0.heap.size<=b) x v
def SE(s:BA)(L:List Tk)(n:Nat):Prop:=∀(w:World) (rb k:Nat) (x:X) (k':Nat) (bad':Int),PAt w rb s L k->expM L n k (-1)=some (x,k',bad')->
 Calls prog 97 #[.agg #[.pointer (some ⟨rb,0,none⟩)]] w fun e w'=>PRet (QX w x) w rb s L k' bad' e w'
def SA(s:BA)(L:List Tk)(n:Nat):Prop:=∀(w:World) (rb k:Nat) (x:X) (k':Nat) (bad':Int),PAt w rb s L k->Ja0 L n k (-1)=some (x,k',bad')->
 Calls prog 177 #[.agg #[.pointer (some ⟨rb,0,none⟩)]] w fun e w'=>PRet (QX w x) w rb s L k' bad' e w'
variable {Q:World->Value->Prop}{w1:World}{k1:Nat}{b1 bad':Int}
theorem PRet.up{w:World}{rb:Nat}{s:BA}{L:List Tk}{e:Ending}(D:Kq (·=rb) w w1)(d:0<=bz L k1 b1)(hF:0<=bz L k1 b1->bz L k' bad'=bz L k1 b1)(h:ThrX w1 rb (bz L k1 b1) e w'):PRet Q w rb s L k' bad' e w':=PRet.thr (h.before D) (hF d) d
variable {k0:Nat}{b0 b':Int}
theorem JbM{L:List Tk}(S:0<=bz L k0 b0->bz L k1 b1=bz L k0 b0)(F:0<=bz L k1 b1->bz L k' b'=bz L k1 b1):0<=bz L k0 b0->bz L k' b'=bz L k0 b0:=fun d=>(F (by rw[S d];exact d)).trans (S d)
structure PB(L:List Tk):Prop where
 len:L.length<=301
 sz:∀k,(tkAt L k).s.size<=300
variable {kws:List BA}
theorem PEnv.pb{s:BA}{L:List Tk}(h:PEnv s kws L):PB L:=by
 have d:=h.sz;refine⟨?_,fun k=> ?_⟩
 .rw[h.eq];have:=JcV s kws (s.size+1) 0;omega
 .rw[h.eq];have:=Jdw s kws (s.size+1) 0 k;omega
variable {bad:Int}
theorem PB.dp{L:List Tk}(h:PB L){n k:Nat}(d:expM L n k bad=some (x,k',b'))(D:b'<0)(hk:k'<L.length):Go.Proofs.YtleenphlgbklmaaGreatDoor.dp x<=200000:=by
 have G:=(made L h.sz n).e _ _ _ _ _ d D;have E:=JoF x;have:=h.len;omega
theorem JgI{s:BA}{L:List Tk}(hE:PEnv s Jad L){w:World}{rb k:Nat}(h:PAt w rb s L k):
  Calls prog 174 #[.agg #[.pointer (some ⟨rb,0,none⟩)],.slice none 0 0] w fun e w'=>PRet (fun _ v=>v= .string (tkAt L k).s/\Wd (tkAt L k).s) w rb s L (Jai L ⟨#[110,97,109,101]⟩ k (-1)) (Jab L ⟨#[110,97,109,101]⟩ k (-1)) e w':=by
 have:=Jip hE h [] (.slice none 0 0) (VbI _ _ _ _);have e:dupB [] (tkAt L k).s (tkAt L k).loc (Jab L ⟨#[110,97,109,101]⟩ k (-1))=Jab L ⟨#[110,97,109,101]⟩ k (-1):=by simp[dupB]
 rw[e]at this;exact this
theorem Jqs{w:World}(J:PX w P x (.iface T u))(L:dp x<=200000):
  Calls prog 175 #[.slice (some ⟨w.heap.size,0,none⟩) 1 1] (w.alloc (.cells #[.iface T u] 130)) fun e w'=>e= .returned (.agg #[.int .i64 (dp x+1:Nat)])/\Kp (fun _=>False) w w':=by
 have hk:Kp (fun _=>False) w (w.alloc (.cells #[.iface T u] 130)):=(Kp.refl _ _).alloc _;have I:(w.alloc (.cells #[.iface T u] 130)).heap[w.heap.size]? =some (.cells #[.iface T u] 130 (0,0)):=Vag _ _
 have:=Jc7 [x] [.iface T u] w.heap.size 1 (w.alloc (.cells #[.iface T u] 130)) P rfl (by
  intro j G;have:j=0:=by simpa using G
  subst this;simp only[Vev,I];rfl) (by
  intro j y p D d
  match j,D,d with
  |0,D,d=>simp at D d;subst D;subst d;exact J.kp hk) (by simp) (by simp[dps];omega)
 refine this.mono ?_
 rintro e w' ⟨rfl,E⟩;exact⟨by simp[dps],hk.trans E⟩
variable {y:X}{T2:TypeId}{u2:Value}
theorem Jjn{w:World}(L:PX w P x (.iface T u))(J:PX w P y (.iface T2 u2))(M:dp x<=200000)(O:dp y<=200000):
  Calls prog 175 #[.slice (some ⟨w.heap.size,0,none⟩) 2 2] (w.alloc (.cells #[.iface T u,.iface T2 u2] 130)) fun e w'=>e= .returned (.agg #[.int .i64 (max (dp x) (dp y)+1:Nat)])/\Kp (fun _=>False) w w':=by
 have hk:Kp (fun _=>False) w (w.alloc (.cells #[.iface T u,.iface T2 u2] 130)):=(Kp.refl _ _).alloc _;have E:(w.alloc (.cells #[.iface T u,.iface T2 u2] 130)).heap[w.heap.size]? =some (.cells #[.iface T u,.iface T2 u2] 130 (0,0)):=Vag _ _
 have:=Jc7 [x,y] [.iface T u,.iface T2 u2] w.heap.size 2 (w.alloc (.cells #[.iface T u,.iface T2 u2] 130)) P rfl (by
  intro j I
  match j,I with
  |0,_=>simp only[Vev,E];rfl
  |1,_=>simp only[Vev,E];rfl) (by
  intro j z p D d
  match j,D,d with
  |0,D,d=>simp at D d;subst D;subst d;exact L.kp hk
  |1,D,d=>simp at D d;subst D;subst d;exact J.kp hk) (by simp) (by simp[dps];omega)
 refine this.mono ?_
 rintro e w' ⟨rfl,G⟩;exact⟨by simp[dps],hk.trans G⟩
variable {z:X}{T3:TypeId}{u3:Value}
theorem Jqt{w:World}(L:PX w P x (.iface T u))(J:PX w P y (.iface T2 u2))(M:PX w P z (.iface T3 u3))(O:dp x<=200000)(U:dp y<=200000)(V:dp z<=200000):
  Calls prog 175 #[.slice (some ⟨w.heap.size,0,none⟩) 3 3] (w.alloc (.cells #[.iface T u,.iface T2 u2,.iface T3 u3] 130)) fun e w'=>e= .returned (.agg #[.int .i64 (max (dp x) (max (dp y) (dp z))+1:Nat)])/\Kp (fun _=>False) w w':=by
 have hk:Kp (fun _=>False) w (w.alloc (.cells #[.iface T u,.iface T2 u2,.iface T3 u3] 130)):=(Kp.refl _ _).alloc _;have E:(w.alloc (.cells #[.iface T u,.iface T2 u2,.iface T3 u3] 130)).heap[w.heap.size]? =some (.cells #[.iface T u,.iface T2 u2,.iface T3 u3] 130 (0,0)):=Vag _ _
 have:=Jc7 [x,y,z] [.iface T u,.iface T2 u2,.iface T3 u3] w.heap.size 3 (w.alloc (.cells #[.iface T u,.iface T2 u2,.iface T3 u3] 130)) P rfl (by
  intro j I
  match j,I with
  |0,_=>simp only[Vev,E];rfl
  |1,_=>simp only[Vev,E];rfl
  |2,_=>simp only[Vev,E];rfl) (by
  intro j t p D d
  match j,D,d with
  |0,D,d=>simp at D d;subst D;subst d;exact L.kp hk
  |1,D,d=>simp at D d;subst D;subst d;exact J.kp hk
  |2,D,d=>simp at D d;subst D;subst d;exact M.kp hk) (by simp) (by simp[dps];omega)
 refine this.mono ?_
 rintro e w' ⟨rfl,G⟩;exact⟨by simp[dps],hk.trans G⟩
theorem JmD{s:BA}{L:List Tk}(hE:PEnv s Jad L)(n:Nat)(hA:SE s L n)(w:World)(rb k:Nat)(h:PAt w rb s L k)(hM:isM L ⟨#[102,117,110]⟩ k (-1)=true)(x:X)(J:Nat)(T:Int)
 (Z:expM L n (Jai L ⟨#[45,62]⟩ (Jai L ⟨#[110,97,109,101]⟩ (k+1) (-1)) (Jab L ⟨#[110,97,109,101]⟩ (k+1) (-1))) (Jab L ⟨#[45,62]⟩ (Jai L ⟨#[110,97,109,101]⟩ (k+1) (-1)) (Jab L ⟨#[110,97,109,101]⟩ (k+1) (-1)))=some (x,J,T)):
  Calls prog 130 #[.agg #[.pointer (some ⟨rb,0,none⟩)]] w fun e w'=>PRet (QX w (.mk ⟨#[102,117,110]⟩ [(tkAt L (k+1)).s] [x] (tkAt L k).loc)) w rb s L J T e w':=by
 obtain⟨O,B0,ak,aD⟩:∃O,∃B0:Int,O=k/\B0= -1:=⟨_,_,rfl,rfl⟩
 obtain⟨G,ai⟩:∃K,Jai L ⟨#[102,117,110]⟩ O B0=K:=⟨_,rfl⟩
 obtain⟨M,af⟩:∃B,Jab L ⟨#[102,117,110]⟩ O B0=B:=⟨_,rfl⟩
 have q1:G=k+1/\M= -1:=by rw[<-ai,<-af,ak,aD];exact Jaw hM
 rw[<-q1.1,<-q1.2]at Z;obtain⟨U,ag⟩:∃K,Jai L ⟨#[110,97,109,101]⟩ G M=K:=⟨_,rfl⟩
 obtain⟨V,ah⟩:∃B,Jab L ⟨#[110,97,109,101]⟩ G M=B:=⟨_,rfl⟩
 rw[ag,ah]at Z;obtain⟨K3,ae⟩:∃K,Jai L ⟨#[45,62]⟩ U V=K:=⟨_,rfl⟩
 obtain⟨B3,aj⟩:∃B,Jab L ⟨#[45,62]⟩ U V=B:=⟨_,rfl⟩
 rw[ae,aj]at Z;have M4:=Z;have aJ:Hid (T<0->J<L.length->dp x<=200000):=fun h1 h2=>hE.pb.dp Z h1 h2
 clear Z;rw[<-q1.1];clear q1;have S4:0<=bz L K3 B3->bz L J T=bz L K3 B3:=fun d=>(stk L n).ex _ _ _ _ _ M4 d
 have S3:0<=bz L U V->bz L K3 B3=bz L U V:=fun d=>by rw[<-ae,<-aj];exact Jay d (by decide)
 have S2:0<=bz L G M->bz L U V=bz L G M:=fun d=>by rw[<-ag,<-ah];exact Jay d (by decide)
 have S1:0<=bz L O B0->bz L G M=bz L O B0:=fun d=>by rw[<-ai,<-af];exact Jay d (by decide)
 have F3:Hid (0<=bz L K3 B3->bz L J T=bz L K3 B3):=S4;have F2:Hid (0<=bz L U V->bz L J T=bz L U V):=JbM S3 F3.out;have F1:Hid (0<=bz L G M->bz L J T=bz L G M):=JbM S2 F2.out;clear S1 S2 S3 S4;have aF:Hid _:=ai;have aR:Hid _:=af;clear ai af;have aT:Hid _:=ag;have aK:Hid _:=ah;clear ag ah;have aI:Hid _:=ae;have aN:Hid _:=aj;clear ae aj;have aM:Hid _:=M4;clear M4;rw[<-ak]at h⊢;subst aD;clear ak hM;obtain⟨w0,aX,ay,aB,h0,aU,a0⟩:=Ja6 h
 go_enter func130,ntmps130
 have C1:=JaB hE h0 ⟨#[102,117,110]⟩ (.inl (by simp[Jad])) (by decide) (by decide);rw[aF.out,aR.out]at C1;have aw:Hid _:=C1;clear C1
 go_wp2_with fail
 refine Vac aw.out ?_
 intro e aH D;clear aw
 by_cases d:0<=bz L G M
 .obtain⟨b,E,Y⟩:=D.2 d;rw[E];clear E D
  go_wp2
  exact⟨rfl,PRet.up (Kq.of_kp ay (fun _ z=>z.elim)) d F1.out ⟨b,rfl,Y⟩⟩
 obtain⟨W,v,E,I,P1,kq⟩:=D.1 (by omega);clear d D;have aE:=(Kq.of_kp ay (fun _ z=>z.elim)).trans kq;have am:=(kq.block _ (Vah aB) (by show¬_;omega)).trans aB;have aW:aH.cell? ⟨w.heap.size,0,none⟩=some (.pointer (some ⟨rb,0,none⟩)):=by simp[Vev,am]
 subst I;subst E;subst W;have C2:=JgI hE P1;rw[aT.out,aK.out]at C2;have aA:Hid _:=C2;clear C2
 go_wp2_with fail
 refine Vac aA.out ?_
 intro e aP D;clear aA
 by_cases d:0<=bz L U V
 .obtain⟨b,E,Y⟩:=D.2 d;rw[E];clear E D
  go_wp2
  exact⟨rfl,PRet.up aE d F2.out ⟨b,rfl,Y⟩⟩
 obtain⟨W,v,E,I,P2,kq⟩:=D.1 (by omega);clear d D;have au:=aE.trans kq;have aq:=(kq.block _ (Vah am) (by show¬_;omega)).trans am;have aZ:aP.cell? ⟨w.heap.size,0,none⟩=some (.pointer (some ⟨rb,0,none⟩)):=by simp[Vev,aq]
 obtain⟨I,aG⟩:=I;subst I;subst E;subst W;have C3:=JaB hE P2 ⟨#[45,62]⟩ (.inr (.inl rfl)) (by decide) (by decide);rw[aI.out,aN.out]at C3;have az:Hid _:=C3;clear C3
 go_wp2_with fail
 refine Vac az.out ?_
 intro e aQ D;clear az
 by_cases d:0<=bz L K3 B3
 .obtain⟨b,E,Y⟩:=D.2 d;rw[E];clear E D
  go_wp2
  exact⟨rfl,PRet.up au d F3.out ⟨b,rfl,Y⟩⟩
 obtain⟨W,v,E,I,P3,kq⟩:=D.1 (by omega);clear d D;have an:=au.trans kq;have ao:=(kq.block _ (Vah aq) (by show¬_;omega)).trans aq;have aY:aQ.cell? ⟨w.heap.size,0,none⟩=some (.pointer (some ⟨rb,0,none⟩)):=by simp[Vev,ao]
 subst I;subst E;subst W;have C4:=hA _ _ _ _ _ _ P3 aM.out;have av:Hid _:=C4;clear C4
 go_wp2_with fail
 refine Vac av.out ?_
 intro e ax D;clear av
 by_cases d:0<=bz L J T
 .obtain⟨b,E,Y⟩:=D.2 d;rw[E];clear E D
  go_wp2
  exact⟨rfl,PRet.up an d (fun _=>rfl) ⟨b,rfl,Y⟩⟩
 obtain⟨W,v,E,I,P4,kq⟩:=D.1 (by omega);clear d D;have aS:=an.trans kq;have aO:=(kq.block _ (Vah ao) (by show¬_;omega)).trans ao;have aV:ax.cell? ⟨w.heap.size,0,none⟩=some (.pointer (some ⟨rb,0,none⟩)):=by simp[Vev,aO]
 have X4:PX ax (fun b=>w.heap.size<=b) _ v:=I.mono (fun b h1 _=>Vas an.size h1);obtain⟨T4,u4,rfl⟩:=I.iface;subst E;clear I;subst W;have aL:=aJ.out (by omega) P4.lt;have HB:Hid _:=Jqs X4 aL
 go_wp2_with fail
 refine Vac HB.out ?_
 rintro e aa ⟨rfl,al⟩;have KF:=aS.trans (Kq.of_kp (S:=(·=rb)) al (fun _ z=>z.elim));have Y4:=X4.kp al;have PF:=P4.kp al;have ac:Kp (fun _=>False) aa (aa.alloc (.cells #[.int .i64 (dp x+1:Nat),.string (tkAt L G).s,.iface T4 u4] 268)):=(Kp.refl _ _).alloc _;have aC:(aa.alloc (.cells #[.int .i64 (dp x+1:Nat),.string (tkAt L G).s,.iface T4 u4] 268)).heap[aa.heap.size]? =some (.cells #[.int .i64 (dp x+1:Nat),.string (tkAt L G).s,.iface T4 u4] 268 (0,0)):=Vag _ _;have FX:Hid (PRet (QX w (.mk ⟨#[102,117,110]⟩ [(tkAt L G).s] [x] (tkAt L O).loc)) w rb s L J (-1) (.returned (.iface 266 (.pointer (some ⟨aa.heap.size,0,none⟩)))) (aa.alloc (.cells #[.int .i64 (dp x+1:Nat),.string (tkAt L G).s,.iface T4 u4] 268))):=PRet.ret (Q:=QX w (.mk ⟨#[102,117,110]⟩ [(tkAt L G).s] [x] (tkAt L O).loc)) (PX.fn _ _ _ _ _ aG KF.size aC (Y4.kp ac)) (PF.kp ac) (KF.trans (Kq.of_kp (S:=(·=rb)) ac (fun _ z=>z.elim)));clear HB ac aC
 go_wp2
 go_ret
 exact FX.out
theorem JpE{s:BA}{L:List Tk}(hE:PEnv s Jad L)(n:Nat)(hA:SE s L n)(w:World)(rb k:Nat)(h:PAt w rb s L k)(hM:isM L ⟨#[105,102]⟩ k (-1)=true)(x y z:X)(O J W:Nat)(T M Z:Int)
 (hX:expM L n (k+1) (-1)=some (x,O,T))(hY:expM L n (Jai L ⟨#[116,104,101,110]⟩ O T) (Jab L ⟨#[116,104,101,110]⟩ O T)=some (y,J,M))(hZ:expM L n (Jai L ⟨#[101,108,115,101]⟩ J M) (Jab L ⟨#[101,108,115,101]⟩ J M)=some (z,W,Z)):
  Calls prog 131 #[.agg #[.pointer (some ⟨rb,0,none⟩)]] w fun e w'=>PRet (QX w (.mk ⟨#[105,102]⟩ [] [x,y,z] (tkAt L k).loc)) w rb s L W Z e w':=by
 obtain⟨K0,B0,an,aK⟩:∃K0,∃B0:Int,K0=k/\B0= -1:=⟨_,_,rfl,rfl⟩
 obtain⟨K1,aj⟩:∃K,Jai L ⟨#[105,102]⟩ K0 B0=K:=⟨_,rfl⟩
 obtain⟨B1,ah⟩:∃B,Jab L ⟨#[105,102]⟩ K0 B0=B:=⟨_,rfl⟩
 have q1:K1=k+1/\B1= -1:=by rw[<-aj,<-ah,an,aK];exact Jaw hM
 rw[<-q1.1,<-q1.2]at hX;obtain⟨K3,af⟩:∃K,Jai L ⟨#[116,104,101,110]⟩ O T=K:=⟨_,rfl⟩
 obtain⟨B3,ak⟩:∃B,Jab L ⟨#[116,104,101,110]⟩ O T=B:=⟨_,rfl⟩
 rw[af,ak]at hY;obtain⟨K5,ai⟩:∃K,Jai L ⟨#[101,108,115,101]⟩ J M=K:=⟨_,rfl⟩
 obtain⟨B5,ag⟩:∃B,Jab L ⟨#[101,108,115,101]⟩ J M=B:=⟨_,rfl⟩
 rw[ai,ag]at hZ;have M2:=hX;have M4:=hY;have M6:=hZ;have aS:Hid (T<0->O<L.length->dp x<=200000):=fun G h2=>hE.pb.dp hX G h2
 have a4:Hid (M<0->J<L.length->dp y<=200000):=fun G h2=>hE.pb.dp hY G h2
 have aT:Hid (Z<0->W<L.length->dp z<=200000):=fun G h2=>hE.pb.dp hZ G h2
 clear hX hY hZ q1;have S6:0<=bz L K5 B5->bz L W Z=bz L K5 B5:=fun d=>(stk L n).ex _ _ _ _ _ M6 d
 have S5:0<=bz L J M->bz L K5 B5=bz L J M:=fun d=>by rw[<-ai,<-ag];exact Jay d (by decide)
 have S4:0<=bz L K3 B3->bz L J M=bz L K3 B3:=fun d=>(stk L n).ex _ _ _ _ _ M4 d
 have S3:0<=bz L O T->bz L K3 B3=bz L O T:=fun d=>by rw[<-af,<-ak];exact Jay d (by decide)
 have S2:0<=bz L K1 B1->bz L O T=bz L K1 B1:=fun d=>(stk L n).ex _ _ _ _ _ M2 d
 have S1:0<=bz L K0 B0->bz L K1 B1=bz L K0 B0:=fun d=>by rw[<-aj,<-ah];exact Jay d (by decide)
 have F5:Hid (0<=bz L K5 B5->bz L W Z=bz L K5 B5):=S6;have F4:Hid (0<=bz L J M->bz L W Z=bz L J M):=JbM S5 F5.out;have F3:Hid (0<=bz L K3 B3->bz L W Z=bz L K3 B3):=JbM S4 F4.out;have F2:Hid (0<=bz L O T->bz L W Z=bz L O T):=JbM S3 F3.out;have F1:Hid (0<=bz L K1 B1->bz L W Z=bz L K1 B1):=JbM S2 F2.out;clear S1 S2 S3 S4 S5 S6;have aN:Hid _:=aj;have a2:Hid _:=ah;clear aj ah;have a3:Hid _:=M2;clear M2;have aR:Hid _:=af;have aW:Hid _:=ak;clear af ak;have aV:Hid _:=M4;clear M4;have aQ:Hid _:=ai;have aP:Hid _:=ag;clear ai ag;have aX:Hid _:=M6;clear M6;rw[<-an]at h⊢;subst aK;clear an hM;obtain⟨w0,be,aD,aG,h0,a9,a0⟩:=Ja6 h
 go_enter func131,ntmps131
 have C1:=JaB hE h0 ⟨#[105,102]⟩ (.inl (by simp[Jad])) (by decide) (by decide);rw[aN.out,a2.out]at C1;have aB:Hid _:=C1;clear C1
 go_wp2_with fail
 refine Vac aB.out ?_
 intro e aO D;clear aB
 by_cases d:0<=bz L K1 B1
 .obtain⟨b,E,V⟩:=D.2 d;rw[E];clear E D
  go_wp2
  exact⟨rfl,PRet.up (Kq.of_kp aD (fun _ z=>z.elim)) d F1.out ⟨b,rfl,V⟩⟩
 obtain⟨U,v,E,I,P1,kq⟩:=D.1 (by omega);clear d D;have aq:=(Kq.of_kp aD (fun _ z=>z.elim)).trans kq;have au:=(kq.block _ (Vah aG) (by show¬_;omega)).trans aG;have bc:aO.cell? ⟨w.heap.size,0,none⟩=some (.pointer (some ⟨rb,0,none⟩)):=by simp[Vev,au]
 subst I;subst E;subst U;have C2:=hA _ _ _ _ _ _ P1 a3.out;have aF:Hid _:=C2;clear C2
 go_wp2_with fail
 refine Vac aF.out ?_
 intro e aL D;clear aF
 by_cases d:0<=bz L O T
 .obtain⟨b,E,V⟩:=D.2 d;rw[E];clear E D
  go_wp2
  exact⟨rfl,PRet.up aq d F2.out ⟨b,rfl,V⟩⟩
 obtain⟨U,v,E,I,P2,kq⟩:=D.1 (by omega);clear d D;have ay:=aq.trans kq;have ax:=(kq.block _ (Vah au) (by show¬_;omega)).trans au;have bg:aL.cell? ⟨w.heap.size,0,none⟩=some (.pointer (some ⟨rb,0,none⟩)):=by simp[Vev,ax]
 have Y:PX aL (fun b=>w.heap.size<=b) _ v:=I.mono (fun b G _=>Vas aq.size G);obtain⟨T2,u2,rfl⟩:=I.iface;subst E;clear I;subst U;have C3:=JaB hE P2 ⟨#[116,104,101,110]⟩ (.inl (by simp[Jad])) (by decide) (by decide);rw[aR.out,aW.out]at C3;have aE:Hid _:=C3;clear C3
 go_wp2_with fail
 refine Vac aE.out ?_
 intro e a1 D;clear aE
 by_cases d:0<=bz L K3 B3
 .obtain⟨b,E,V⟩:=D.2 d;rw[E];clear E D
  go_wp2
  exact⟨rfl,PRet.up ay d F3.out ⟨b,rfl,V⟩⟩
 obtain⟨U,v,E,I,P3,kq⟩:=D.1 (by omega);clear d D;have av:=ay.trans kq;have aw:=(kq.block _ (Vah ax) (by show¬_;omega)).trans ax;have bf:a1.cell? ⟨w.heap.size,0,none⟩=some (.pointer (some ⟨rb,0,none⟩)):=by simp[Vev,aw]
 subst I;subst E;have Y:=Y.kq (fun b G=>by have G:w.heap.size<=b:=G;omega) kq;subst U;have C4:=hA _ _ _ _ _ _ P3 aV.out;have az:Hid _:=C4;clear C4
 go_wp2_with fail
 refine Vac az.out ?_
 intro e aC D;clear az
 by_cases d:0<=bz L J M
 .obtain⟨b,E,V⟩:=D.2 d;rw[E];clear E D
  go_wp2
  exact⟨rfl,PRet.up av d F4.out ⟨b,rfl,V⟩⟩
 obtain⟨U,v,E,I,P4,kq⟩:=D.1 (by omega);clear d D;have aM:=av.trans kq;have ao:=(kq.block _ (Vah aw) (by show¬_;omega)).trans aw;have bb:aC.cell? ⟨w.heap.size,0,none⟩=some (.pointer (some ⟨rb,0,none⟩)):=by simp[Vev,ao]
 have X4:PX aC (fun b=>w.heap.size<=b) _ v:=I.mono (fun b G _=>Vas av.size G);obtain⟨T4,u4,rfl⟩:=I.iface;subst E;clear I;have Y:=Y.kq (fun b G=>by have G:w.heap.size<=b:=G;omega) kq;subst U;have C5:=JaB hE P4 ⟨#[101,108,115,101]⟩ (.inl (by simp[Jad])) (by decide) (by decide);rw[aQ.out,aP.out]at C5;have aH:Hid _:=C5;clear C5
 go_wp2_with fail
 refine Vac aH.out ?_
 intro e aY D;clear aH
 by_cases d:0<=bz L K5 B5
 .obtain⟨b,E,V⟩:=D.2 d;rw[E];clear E D
  go_wp2
  exact⟨rfl,PRet.up aM d F5.out ⟨b,rfl,V⟩⟩
 obtain⟨U,v,E,I,P5,kq⟩:=D.1 (by omega);clear d D;have am:=aM.trans kq;have al:=(kq.block _ (Vah ao) (by show¬_;omega)).trans ao;have ba:aY.cell? ⟨w.heap.size,0,none⟩=some (.pointer (some ⟨rb,0,none⟩)):=by simp[Vev,al]
 subst I;subst E;have Y:=Y.kq (fun b G=>by have G:w.heap.size<=b:=G;omega) kq;have X4:=X4.kq (fun b G=>by have G:w.heap.size<=b:=G;omega) kq;subst U;have C6:=hA _ _ _ _ _ _ P5 aX.out;have aA:Hid _:=C6;clear C6
 go_wp2_with fail
 refine Vac aA.out ?_
 intro e aJ D;clear aA
 by_cases d:0<=bz L W Z
 .obtain⟨b,E,V⟩:=D.2 d;rw[E];clear E D
  go_wp2
  exact⟨rfl,PRet.up am d (fun _=>rfl) ⟨b,rfl,V⟩⟩
 obtain⟨U,v,E,I,P6,kq⟩:=D.1 (by omega);clear d D;have aZ:=am.trans kq;have a5:=(kq.block _ (Vah al) (by show¬_;omega)).trans al;have a8:aJ.cell? ⟨w.heap.size,0,none⟩=some (.pointer (some ⟨rb,0,none⟩)):=by simp[Vev,a5]
 have X6:PX aJ (fun b=>w.heap.size<=b) _ v:=I.mono (fun b G _=>Vas am.size G);obtain⟨T6,u6,rfl⟩:=I.iface;subst E;clear I;have Y:=Y.kq (fun b G=>by have G:w.heap.size<=b:=G;omega) kq;have X4:=X4.kq (fun b G=>by have G:w.heap.size<=b:=G;omega) kq;subst U;have aU:=aS.out (by omega) P2.lt;have a7:=a4.out (by omega) P4.lt;have a6:=aT.out (by omega) P6.lt;have HB:Hid _:=Jqt Y X4 X6 aU a7 a6
 go_wp2_with fail
 refine Vac HB.out ?_
 rintro e ac ⟨rfl,ae⟩;have KF:=aZ.trans (Kq.of_kp (S:=(·=rb)) ae (fun _ z=>z.elim));have Y2:=Y.kp ae;have Y4:=X4.kp ae;have Y6:=X6.kp ae;have PF:=P6.kp ae;have aa:Kp (fun _=>False) ac (ac.alloc (.cells #[.int .i64 (max (dp x) (max (dp y) (dp z))+1:Nat),.iface T2 u2,.iface T4 u4,.iface T6 u6] 332)):=(Kp.refl _ _).alloc _;have aI:(ac.alloc (.cells #[.int .i64 (max (dp x) (max (dp y) (dp z))+1:Nat),.iface T2 u2,.iface T4 u4,.iface T6 u6] 332)).heap[ac.heap.size]? =some (.cells #[.int .i64 (max (dp x) (max (dp y) (dp z))+1:Nat),.iface T2 u2,.iface T4 u4,.iface T6 u6] 332 (0,0)):=Vag _ _;have FX:Hid (PRet (QX w (.mk ⟨#[105,102]⟩ [] [x,y,z] (tkAt L K0).loc)) w rb s L W (-1) (.returned (.iface 269 (.pointer (some ⟨ac.heap.size,0,none⟩)))) (ac.alloc (.cells #[.int .i64 (max (dp x) (max (dp y) (dp z))+1:Nat),.iface T2 u2,.iface T4 u4,.iface T6 u6] 332))):=PRet.ret (Q:=QX w (.mk ⟨#[105,102]⟩ [] [x,y,z] (tkAt L K0).loc)) (PX.ite _ _ _ _ _ _ _ _ KF.size aI (Y2.kp aa) (Y4.kp aa) (Y6.kp aa)) (PF.kp aa) (KF.trans (Kq.of_kp (S:=(·=rb)) aa (fun _ z=>z.elim)));clear HB aa aI
 go_wp2
 go_ret
 exact FX.out
end Go.Proofs.YtleenphlgbklmaaGreatDoor
