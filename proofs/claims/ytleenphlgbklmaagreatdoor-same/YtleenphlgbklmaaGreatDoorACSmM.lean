import Derived.Test.YtleenphlgbklmaaGreatDoorACPIter
import Derived.Test.YtleenphlgbklmaaGreatDoorACSmL
set_option linter.unusedVariables false
set_option linter.unusedSimpArgs false
set_option maxRecDepth 100000
set_option maxHeartbeats 8000000
open List renaming getD → Vet, range → Veu
open UInt8 renaming ofNat → Vex, toNat → Vey
namespace Go.Proofs.YtleenphlgbklmaaGreatDoor
open Go.RowKit
open Value renaming ownBlock → Vev
open World renaming cell? → Vew
open Tryz
variable {k n m:Nat}{ρ:Nat->Nat}
theorem JpX(p:Int->Bool)(s:BA):∀n i,s.size-i=n->∀k,i<=k->k<run p s i->k<s.size/\p (chr s k)=true:=by
 intro n
 induction n with
 |zero=>
  intro i G k E d;rw[Ja8 p s i (fun z=>by omega)]at d;omega
 |succ n D=>
  intro i G k E d
  cases h:p (chr s i)with
  |false=>
   rw[Ja8 p s i (fun _=>h)]at d;omega
  |true=>
   by_cases e:k=i
   .subst e;exact⟨by omega,h⟩
   .rw[Ja7 p s i (by omega) h]at d;exact D (i+1) (by omega) k (by omega) d
variable {s:BA}{L:List Tk}
theorem Jmr(M:PEnv s Jas L)(k:Nat)(W:k<L.length)(d:(tkAt L k).is=⟨#[110,97,109,101]⟩):
  (tkAt L k).s≠⟨#[]⟩/\(tkAt L k).s≠⟨#[105,110,116]⟩/\(tkAt L k).s≠⟨#[98,111,111,108]⟩/\(∀c,c∈(tkAt L k).s.data.toList->isW c=true)/\0<(tkAt L k).s.size/\(tkAt L k).s.size<=300:=by
 have J:∀w,w∈Jas->w≠⟨#[110,97,109,101]⟩:=fun w G=>(JcH.ne w G).1
 obtain⟨j,hj,e⟩:=(JbO s Jas J (s.size+1) 0 (VaN _) k (by rw[<-M.eq];exact W)).2.2.1;rw[<-M.eq]at e;rw[e]at d⊢;have hl:=JfW s Jas J j hj
 have G:j<s.size/\lowI (chr s j)=true/\kwIn Jas (tok1 s Jas j).1.s=false:=by
  cases hl with
  |fin _ D _ _ _=>rw[D]at d;exact absurd d (by decide)
  |bad D _=>rw[D]at d;exact absurd d (by decide)
  |num _ _ _ _ D=>rw[D]at d;exact absurd d (by decide)
  |sign E _ _ _ D h=>
   rw[D]at d
   rcases h with h|⟨af,h,_⟩
   .rw[h]at d;exact absurd d (by decide)
   .rw[h]at d;have:(⟨#[s[j]]⟩:BA).size=(⟨#[110,97,109,101]⟩:BA).size:=by rw[d]
    exact absurd this (by show¬(1=4);omega)
  |word E D _ h=>
   refine⟨E,D,?_⟩
   cases I:kwIn Jas (tok1 s Jas j).1.s with
   |false=>rfl
   |true=>
    rw[I,Vat rfl]at h;rw[h]at d;exact absurd d (J _ (JbB I))
 obtain⟨E,D,h⟩:=G;have Y:clsK s j=run lfI s j:=by rw[clsK,Vat E,Vat D]
 have T:(tok1 s Jas j).1.s=s.extract j (run lfI s j):=by show s.extract j (clsK s j)=_;rw[Y]
 have ac:=Jdq lfI s j E (by unfold lfI;rw[D];rfl);have ag:=Jbi lfI s j (by omega);have Z:(s.extract j (run lfI s j)).size=run lfI s j-j:=by simp[Va2];omega
 have U:∀w,w∈Jas->s.extract j (run lfI s j)≠w:=fun w G z=>by
  rw[T,z]at h
  have:kwIn Jas w=true:=by
   unfold kwIn;rw[Vci];exact⟨w,G,(Jaf w w).2 rfl⟩
  rw[this]at h
  cases h
 rw[T];refine⟨fun z=>by rw[z]at Z;have:(⟨#[]⟩:BA).size=0:=rfl;omega,U _ (by simp[Jas]),U _ (by simp[Jas]),?_,by omega,by have:=M.sz;omega⟩
 intro c I;obtain⟨q,hq,rfl⟩:=Vbk I
 have ae:q<run lfI s j-j:=by
  have e2:(s.extract j (run lfI s j)).data.toList.length=(s.extract j (run lfI s j)).size:=by rw[Vbx];rfl
  omega
 obtain⟨V,O⟩:=JpX lfI s _ j rfl (j+q) (by omega) (by omega);have aa:=JbZ s (j+q) V
 have e3:(s.extract j (run lfI s j)).data.toList[q]=s[j+q]:=by
  simp only[Vbg];simp;rfl
 rw[e3];unfold lfI lowI figI at O;unfold isW;rw[<-aa]at O;simp only[VcQ,Vaz,Va1]at O⊢;omega
inductive Occ(i:Nat):Ty->Prop
 |var:Occ i (.mk ⟨#[]⟩ i [])
 |kid (k:BA) (n:Nat) (l:List Ty) (a:Ty):a∈l->Occ i a->Occ i (.mk k n l)
def NAdd(l:List Tk)(names d:List BA)(t:Ty):Prop:=(∃u,d=names++u/\∀m,m∈u->∃j,j<l.length/\(tkAt l j).is=⟨#[110,97,109,101]⟩/\(tkAt l j).s=m)/\∀i,names.length<=i->i<d.length->Occ i t
variable {l:List Tk}{w:BA}{bad:Int}
theorem Jb3(h:Jab l w k bad<0):bad<0/\isM l w k bad=true:=by
 unfold Jab at h
 split at h
 .omega
 .rename_i e;simp only[Vaz,Bool.not_eq_true',Va1,not_and,Bool.not_eq_false]at e;refine⟨h,?_⟩
  cases d:isM l w k bad with
  |true=>rfl
  |false=>exact absurd h (e d)
theorem Jq3(h:isM l w k bad=true):(tkAt l k).is=w:=by
 unfold isM at h;simp only[Vaz,Va1,Vbs]at h;exact Vbf (VbF.1 h.2)
variable {n0 n1 n2:List BA}{a:Ty}
theorem NAdd.two{b:Ty}(k:BA)(h:NAdd l n0 n1 a)(g:NAdd l n1 n2 b):NAdd l n0 n2 (.mk k 0 [a,b]):=by
 obtain⟨⟨u,rfl,J⟩,G⟩:=h;obtain⟨⟨v,rfl,E⟩,D⟩:=g;refine⟨⟨u++v,by simp,fun m d=> ?_⟩,fun i I L=> ?_⟩
 .simp at d
  rcases d with d|d
  .exact J m d
  .exact E m d
 .by_cases e:i<(n0++u).length
  .exact .kid _ _ _ a (by simp) (G i I e)
  .exact .kid _ _ _ b (by simp) (D i (by omega) L)
theorem NAdd.one(k:BA)(h:NAdd l n0 n1 a):NAdd l n0 n1 (.mk k 0 [a]):=⟨h.1,fun i d D=> .kid _ _ _ a (by simp) (h.2 i d D)⟩
theorem NAdd.none(l:List Tk)(n0:List BA)(a:Ty):NAdd l n0 n0 a:=⟨⟨[],by simp,by simp⟩,fun i d h=>by omega⟩
theorem JrE(l:List Tk)(Y:Good l):∀n,(∀names k bad t M V I,Jaq l n names k bad=some (t,M,V,I)->k<l.length->NmOk l names->I<0->NAdd l names M t)/\
  (∀names k bad t M V I,oneM l n names k bad=some (t,M,V,I)->k<l.length->NmOk l names->I<0->NAdd l names M t):=by
 intro n
 induction n with
 |zero=>exact⟨fun _ _ _ _ _ _ _ h=>by simp[Jaq]at h,fun _ _ _ _ _ _ _ h=>by simp[oneM]at h⟩
 |succ n L=>
  have ae:=Jcj l Y n;have ac:=Jb7 l n;refine⟨?_,?_⟩
  .intro names k bad t M V I h J G E;simp only[Jaq]at h;obtain⟨⟨x,n1,k1,b1⟩,D,d⟩:=Vab.1 h;obtain⟨Z,aa⟩:=ae.2 _ _ _ _ _ _ _ D J G;simp only at d
   split at d
   .rename_i T;obtain⟨⟨y,n2,k2,b2⟩,W,U⟩:=Vab.1 d;simp only[Vaa,Vaf]at U;obtain⟨rfl,rfl,rfl,rfl⟩:=U;have O:=Jar Y Z T (by decide) (by decide);have e2:=(ac.1 _ _ _ _ _ _ _ W).2 E;exact(L.2 _ _ _ _ _ _ _ D J G (by omega)).two _ (L.1 _ _ _ _ _ _ _ W O aa E)
   .simp only[Vaa,Vaf]at d;obtain⟨rfl,rfl,rfl,rfl⟩:=d;exact L.2 _ _ _ _ _ _ _ D J G E
  .intro names k bad t M V I h J G E;simp only[oneM]at h
   split at h
   .simp only[Vaa,Vaf]at h;obtain⟨rfl,rfl,rfl,rfl⟩:=h;exact NAdd.none _ _ _
   .split at h
    .simp only[Vaa,Vaf]at h;obtain⟨rfl,rfl,rfl,rfl⟩:=h;exact NAdd.none _ _ _
    .split at h
     .rename_i T;obtain⟨⟨x,n1,k1,b1⟩,D,d⟩:=Vab.1 h;simp only[Vaa,Vaf]at d;obtain⟨rfl,rfl,rfl,rfl⟩:=d;exact(L.1 _ _ _ _ _ _ _ D (Jar Y J T (by decide) (by decide)) G (Jb3 E).1).one _
     .split at h
      .rename_i T;obtain⟨⟨x,n1,k1,b1⟩,D,d⟩:=Vab.1 h;have O:=Jar Y J T (by decide) (by decide);obtain⟨Z,aa⟩:=ae.1 _ _ _ _ _ _ _ D O G;simp only at d
       split at d
       .rename_i af;obtain⟨⟨y,n2,k2,b2⟩,W,U⟩:=Vab.1 d;simp only[Vaa,Vaf]at U;obtain⟨rfl,rfl,rfl,rfl⟩:=U;have ag:=Jar Y Z af (by decide) (by decide);have e1:=(Jb3 E).1;have e2:=(ac.1 _ _ _ _ _ _ _ W).2 e1;exact(L.1 _ _ _ _ _ _ _ D O G (by omega)).two _ (L.1 _ _ _ _ _ _ _ W ag aa e1)
       .simp only[Vaa,Vaf]at d;obtain⟨rfl,rfl,rfl,rfl⟩:=d;exact L.1 _ _ _ _ _ _ _ D O G (Jb3 E).1
      .simp only[Vaa,Vaf]at h;obtain⟨rfl,rfl,rfl,rfl⟩:=h;have hn:=Jq3 (Jb3 E).2;unfold Jcz
       split
       .exact NAdd.none _ _ _
       .refine⟨⟨[(tkAt l k).s],rfl,fun m hm=> ?_⟩,fun i D d=> ?_⟩
        .simp at hm;exact⟨k,J,hn,hm.symm⟩
        .simp at d;have:i=names.length:=by omega
         subst this;exact .var
variable {t:Ty}{names:List BA}{K:Nat}{B:Int}
theorem Jmt(h:PEnv s Jas L)(E:Jaq L n [] 0 (-1)=some (t,names,K,B))(hF:Jab L ⟨#[101,110,100]⟩ K B<0):NW names/\(∀m,m∈names->0<m.size/\m.size<=300)/\∀i,i<names.length->Occ i t:=by
 have D:0<L.length:=(Jkh h).1;have T:=(Jb3 hF).1;obtain⟨⟨u,e,O⟩,G⟩:=(JrE L h.good n).1 _ _ _ _ _ _ _ E D (NmOk.nil L) T;simp only[VaK]at e;subst e;have U:=((Jcj L h.good n).1 _ _ _ _ _ _ _ E D (NmOk.nil L)).2.nd
 have key:∀m,m∈names->m≠⟨#[]⟩/\m≠⟨#[105,110,116]⟩/\m≠⟨#[98,111,111,108]⟩/\(∀c,c∈m.data.toList->isW c=true)/\0<m.size/\m.size<=300:=fun m d=>by
  obtain⟨j,I,M,J⟩:=O m d;rw[<-J];exact Jmr h j I M
 exact⟨⟨U,fun m d=>⟨(key m d).1,(key m d).2.1,(key m d).2.2.1⟩,fun m d=>(key m d).2.2.2.1⟩,fun m d=>(key m d).2.2.2.2,fun i V=>G i (VaN _) V⟩
theorem Jgx(h:WT m a):∀(k:Nat) (u:Ty) (G:WT k u) (E:List (Option Ty)) (i:Nat),E.getD i none≠none->(matM a u E).1.getD i none≠none:=by
 have two:∀(kd:BA) (O:(kd.data.toList== [])=false) (a b c d:Ty) (E:List (Option Ty)) (i:Nat),(∀E,E.getD i none≠none->(matM a c E).1.getD i none≠none)->(∀E,E.getD i none≠none->(matM b d E).1.getD i none≠none)->E.getD i none≠none->(matM (.mk kd 0 [a,b]) (.mk kd 0 [c,d]) E).1.getD i none≠none:=by
  intro kd O a b c d E i f g D;rw[Jdk kd O]
  split
  .split
   .exact g _ (f _ D)
   .exact f _ D
  .exact D
 induction h with
 |var n Z=>
  intro k u G E i D;rw[Jdl]
  cases V:E.getD n none with
  |some t=>exact D
  |none=>
   by_cases e:i=n
   .subst e;exact absurd V D
   .simpa[Vet,VbJ,Vdg e]using D
 |int=>
  intro k u G E i D
  cases u with
  |mk Y U W=>simp only[matM];split;contradiction;split;simpa[JdK]using D;exact D
 |bool=>
  intro k u G E i D
  cases u with
  |mk Y U W=>simp only[matM];split;contradiction;split;simpa[JdK]using D;exact D
 |list a _ I=>
  intro k u G E i D
  cases G with
  |list c J=>
   cases T:(matM a c E).2 with
   |true=>rw[(Jeu a c E).2 T];exact I k c J E i D
   |false=>
    have e:matM (.mk ⟨#[108,105,115,116]⟩ 0 [a]) (.mk ⟨#[108,105,115,116]⟩ 0 [c]) E=(E,false):=by
     rw[matM];simp[JdK,T]
    rw[e];exact D
  |var n _=>rw[Jae _ _ _ _ _ _ _ (by decide) (by decide)];exact D
  |int=>rw[Jae _ _ _ _ _ _ _ (by decide) (by decide)];exact D
  |bool=>rw[Jae _ _ _ _ _ _ _ (by decide) (by decide)];exact D
  |pair _ _ _ _=>rw[Jae _ _ _ _ _ _ _ (by decide) (by decide)];exact D
  |fn _ _ _ _=>rw[Jae _ _ _ _ _ _ _ (by decide) (by decide)];exact D
 |pair a b _ _ I M=>
  intro k u G E i D
  cases G with
  |pair c d J L=>exact two _ (by decide) a b c d E i (fun E=>I k c J E i) (fun E=>M k d L E i) D
  |var n _=>rw[Jae _ _ _ _ _ _ _ (by decide) (by decide)];exact D
  |int=>rw[Jae _ _ _ _ _ _ _ (by decide) (by decide)];exact D
  |bool=>rw[Jae _ _ _ _ _ _ _ (by decide) (by decide)];exact D
  |list _ _=>rw[Jae _ _ _ _ _ _ _ (by decide) (by decide)];exact D
  |fn _ _ _ _=>rw[Jae _ _ _ _ _ _ _ (by decide) (by decide)];exact D
 |fn a b _ _ I M=>
  intro k u G E i D
  cases G with
  |fn c d J L=>exact two _ (by decide) a b c d E i (fun E=>I k c J E i) (fun E=>M k d L E i) D
  |var n _=>rw[Jae _ _ _ _ _ _ _ (by decide) (by decide)];exact D
  |int=>rw[Jae _ _ _ _ _ _ _ (by decide) (by decide)];exact D
  |bool=>rw[Jae _ _ _ _ _ _ _ (by decide) (by decide)];exact D
  |list _ _=>rw[Jae _ _ _ _ _ _ _ (by decide) (by decide)];exact D
  |pair _ _ _ _=>rw[Jae _ _ _ _ _ _ _ (by decide) (by decide)];exact D
theorem Jmm(aa:WT m a):∀(k:Nat) (u:Ty) (J:WT k u) (D:List (Option Ty)) (i:Nat),(matM a u D).2=true->Occ i a->i<D.length->(matM a u D).1.getD i none≠none:=by
 have two:∀(kd:BA) (Z:(kd.data.toList== [])=false) (a b c d:Ty) (D:List (Option Ty)) (i:Nat),(∀D,(matM a c D).2=true->Occ i a->i<D.length->(matM a c D).1.getD i none≠none)->(∀D,(matM b d D).2=true->Occ i b->i<D.length->(matM b d D).1.getD i none≠none)->(∀D,D.getD i none≠none->(matM b d D).1.getD i none≠none)->(matM (.mk kd 0 [a,b]) (.mk kd 0 [c,d]) D).2=true->Occ i (.mk kd 0 [a,b])->i<D.length->(matM (.mk kd 0 [a,b]) (.mk kd 0 [c,d]) D).1.getD i none≠none:=by
  intro kd Z a b c d D i f g kp h E G;rw[Jdk kd Z]at h⊢
  cases V:(matM a c D).2 with
  |false=>rw[V]at h;simp at h
  |true=>
   rw[V]at h;simp only[Va0]at h⊢
   cases Y:(matM b d (matM a c D).1).2 with
   |false=>rw[Y]at h;simp at h
   |true=>
    simp only[Va0]
    cases E with
    |kid _ _ _ x I T=>
     simp at I
     rcases I with rfl|rfl
     .exact kp _ (f D V T G)
     .exact g _ Y T (by rw[Jii];exact G)
 induction aa with
 |var n hn=>
  intro k u J D i h E G
  cases E with
  |kid _ _ _ x I _=>simp at I
  |var=>
   rw[Jdl]
   cases he:D.getD n none with
   |some t=>rw[he];simp
   |none=>simp[Vet,G]
 |int=>intro k u J D i h E G;cases E with|kid _ _ _ x I _=>simp at I
 |bool=>intro k u J D i h E G;cases E with|kid _ _ _ x I _=>simp at I
 |list a _ M=>
  intro k u J D i h E G
  cases E with
  |kid _ _ _ x I T=>
   simp at I;subst I
   cases J with
   |list c O=>
    have e:=Jeu x c D;rw[e.1]at h;rw[e.2 h];exact M k c O D i h T G
   |var n _=>rw[Jae _ _ _ _ _ _ _ (by decide) (by decide)]at h;cases h
   |int=>rw[Jae _ _ _ _ _ _ _ (by decide) (by decide)]at h;cases h
   |bool=>rw[Jae _ _ _ _ _ _ _ (by decide) (by decide)]at h;cases h
   |pair _ _ _ _=>rw[Jae _ _ _ _ _ _ _ (by decide) (by decide)]at h;cases h
   |fn _ _ _ _=>rw[Jae _ _ _ _ _ _ _ (by decide) (by decide)]at h;cases h
 |pair a b _ U M W=>
  intro k u J D i h E G
  cases J with
  |pair c d O L=>exact two _ (by decide) a b c d D i (fun D=>M k c O D i) (fun D=>W k d L D i) (fun D=>Jgx U k d L D i) h E G
  |var n _=>rw[Jae _ _ _ _ _ _ _ (by decide) (by decide)]at h;cases h
  |int=>rw[Jae _ _ _ _ _ _ _ (by decide) (by decide)]at h;cases h
  |bool=>rw[Jae _ _ _ _ _ _ _ (by decide) (by decide)]at h;cases h
  |list _ _=>rw[Jae _ _ _ _ _ _ _ (by decide) (by decide)]at h;cases h
  |fn _ _ _ _=>rw[Jae _ _ _ _ _ _ _ (by decide) (by decide)]at h;cases h
 |fn a b _ U M W=>
  intro k u J D i h E G
  cases J with
  |fn c d O L=>exact two _ (by decide) a b c d D i (fun D=>M k c O D i) (fun D=>W k d L D i) (fun D=>Jgx U k d L D i) h E G
  |var n _=>rw[Jae _ _ _ _ _ _ _ (by decide) (by decide)]at h;cases h
  |int=>rw[Jae _ _ _ _ _ _ _ (by decide) (by decide)]at h;cases h
  |bool=>rw[Jae _ _ _ _ _ _ _ (by decide) (by decide)]at h;cases h
  |list _ _=>rw[Jae _ _ _ _ _ _ _ (by decide) (by decide)]at h;cases h
  |pair _ _ _ _=>rw[Jae _ _ _ _ _ _ _ (by decide) (by decide)]at h;cases h
open Go.Sort
theorem Iap(b:Nat)(w:World):(binOp BinOp.eql 94 (.map (some b)) (.map none)).run prog w= .ok (.bool false) w:=by kernel_rfl
theorem Jkf(a b c:List UInt8)(d:decide (a<=b)=true)(h:decide (b<=c)=true):decide (a<=c)=true:=by
 simp only[Va1]at*;exact List.le_trans d h
theorem Jke(a b:List UInt8):(decide (a<=b)||decide (b<=a))=true:=by
 simp only[VcQ,Va1];exact List.le_total a b
variable {mb:Nat}{kv:List (BA×BA)}
theorem JeQ{w:World}(h:SM w mb kv)(J:kv.length<=1000)(U:∀y,y∈kv->y.1.size<=maxLen):
  Calls prog 50 #[.func (.func 89) #[] #[.pointer (some ⟨w.heap.size,0,none⟩)]] (w.alloc (.cells #[.map (some mb)] 94)) fun e w'=>∃(v:Value) (d:List (List UInt8)),e= .returned v/\d.Perm (kv.map fun y=>y.1.data.toList)/\d.Pairwise (fun x y=>decide (x<=y)=true)/\w'.ownsRow 0 9 1 v d.length (d.map encStr)/\Kept (w.alloc (.cells #[.map (some mb)] 94)) w':=by
 obtain⟨V,T,L,Y⟩:=h.owns J U;refine(VdD.1 (IbE mb kv.length V _ w T (by unfold maxLen;omega) (by omega))).mono ?_
 rintro e w' ⟨v,ss,rfl,M,E,W,D⟩;refine⟨v,ss.mergeSort (fun x y=>decide (x<=y)),rfl,((List.mergeSort_perm ss _).trans M).trans L,List.pairwise_mergeSort Jkf Jke ss,?_,⟨D.os,D.output,D.size,D.block⟩⟩
 rw[List.length_mergeSort];refine⟨E.1,?_⟩
 rcases E.2 with q|⟨g,cap,G,I,_,O⟩
 .exact .inl q
 .exact .inr ⟨g,cap,G,I,VaN _,O⟩
def keyT(kv:List (BA×BA))(x:List UInt8):BA:=match kv.findIdx? (fun y=>Jag y.1 ⟨x.toArray⟩)with|some j=>(kAt kv j).2|none=>⟨#[]⟩
theorem Jm2(w:World)(mb:Nat)(kv:List (BA×BA))(x:List UInt8)(h:SM w mb kv):(Instr.lookup 94 (.map (some mb)) (encStr x) false).run prog w= .ok (.agg #[.string (keyT kv x)]) w:=by
 have:=Jfh 94 VbZ w mb kv ⟨x.toArray⟩ h;show(Instr.lookup 94 (.map (some mb)) (.string ⟨x.toArray⟩) false).run prog w=_;rw[this];unfold keyT
 cases kv.findIdx? (fun y=>Jag y.1 ⟨x.toArray⟩)<;>rfl
theorem IaA(y:BA)(w:World):(Instr.field 102 (.agg #[.string y]) 0).run prog w= .ok (.string y) w:=by kernel_rfl
def keyV(kv:List (BA×BA))(x:List UInt8):Value:= .string (keyT kv x)
theorem IaR:(prog.info? 9).map (fun i=>(i.zero,i.size,i.bytes))=some (some (.string ⟨#[]⟩),1,16):=by kernel_rfl
theorem Ji8(s z:BA)(w:World)(aJ:List (BA×BA)->Prop)(HP:Hid (Calls prog 49 #[.string s,.string z] (w.alloc (.cells #[.int .i64 0,.int .i64 0,.string ⟨#[]⟩,.int .i64 0,.int .i64 0] 23)) fun e w'=>∃mb kv,e= .returned (.tuple #[.map (some mb),.nilIface])/\Kept (w.alloc (.cells #[.int .i64 0,.int .i64 0,.string ⟨#[]⟩,.int .i64 0,.int .i64 0] 23)) w'/\SM w' mb kv/\Hid (aJ kv/\kv.length<=1000/\(∀y,y∈kv->y.1.size<=maxLen)))):
  Calls prog 21 #[.string s,.string z] w fun e w'=>∃(a b:Value) (kv:List (BA×BA)) (d:List (List UInt8)),e= .returned (.tuple #[a,b,.bool false,Jaa 0 0 ⟨#[]⟩])/\aJ kv/\kv.length<=1000/\d.Perm (kv.map fun y=>y.1.data.toList)/\d.Pairwise (fun x y=>decide (x<=y)=true)/\w'.ownsRow 0 9 1 a d.length (d.map encStr)/\w'.ownsRow 0 9 1 b d.length (d.map (keyV kv))/\Kept w w':=by
 have aS:Kept w (w.alloc (.cells #[.int .i64 0,.int .i64 0,.string ⟨#[]⟩,.int .i64 0,.int .i64 0] 23)):=Kept.alloc _ _;have aT:(w.alloc (.cells #[.int .i64 0,.int .i64 0,.string ⟨#[]⟩,.int .i64 0,.int .i64 0] 23)).heap[w.heap.size]? =some (.cells #[.int .i64 0,.int .i64 0,.string ⟨#[]⟩,.int .i64 0,.int .i64 0] 23 (0,0)):=Vag _ _;obtain⟨i0,hi,au,aM,aG⟩:=VcX IaR
 go_enter func21,ntmps21
 go_wp2_with fail
 refine Vac HP.out ?_
 rintro e w1 ⟨mb,kv,rfl,aK,aj,Z⟩;have a3:=aK.blk aT;clear HP;have HK:Hid _:=Jid (some mb) w1;have HS:Hid _:=JeQ aj Z.out.2.1 Z.out.2.2;have aN:Hid _:=aj;clear aj
 go_wp2_with fail
 refine Vac HK.out ?_
 rintro e h ⟨rfl,al⟩;rw[al];clear HK al h
 go_wp2_with fail
 refine Vac HS.out ?_
 rintro e h ⟨v,d,rfl,hp,aI,ag,ac⟩;have ac:Kept w1 h:=(Kept.alloc _ _).trans ac;have aA:=ac.blk a3;have aC:Hid (d.Perm (kv.map fun y=>y.1.data.toList)/\d.Pairwise (fun x y=>decide (x<=y)=true)):=⟨hp,aI⟩
 have a5:d.length<=1000:=by rw[hp.length_eq];simpa using Z.out.2.1
 obtain⟨ao,cap,rfl⟩:∃ao cap,v= .slice ao d.length cap:=by
  rcases ag.2 with⟨rfl,q⟩|⟨g,cap,ah,rfl,_⟩
  .exact⟨none,0,by rw[q]⟩
  .exact⟨_,_,rfl⟩
 obtain⟨g,HR⟩:∃g,Hid (∀(q:Nat) (x:List UInt8),d[q]? =some x->ao=some ⟨g,0,none⟩/\g<h.heap.size/\h.cell? ⟨g,q,none⟩=some (encStr x)):=by
  rcases ag.2 with⟨J,e2⟩|⟨g,a7,ah,J,_,hg,_⟩
  .refine⟨0,fun q x M=> ?_⟩
   have:=(Vae.1 M).1;omega
  .simp only[VdC]at J;refine⟨g,fun q x M=>⟨J.1,Vah hg,?_⟩⟩
   have h1:=VcL ag (g:=g) (by rw[J.1];rfl) q (encStr x) (by simp[M]);have e3:((⟨g,0,none⟩:Addr).add q)=⟨g,q,none⟩:=by unfold Addr.add;split<;>simp_all
   rw[e3]at h1;exact h1
 clear HS hp aI ag
 go_wp2
 go_loopw [4,5,22] (fun a b i wr=>∃q:Nat,q<=d.length/\i= .int .i64 q/\wr.ownsRow h.heap.size 9 1 a q ((d.take q).map encStr)/\wr.ownsRow h.heap.size 9 1 b q ((d.take q).map (keyV kv))/\(∀g,a.ownBlock=some g->b.ownBlock≠some g)/\Kept h wr) (fun _ _ i _=>d.length-(intOf i).toNat)
 case atStart=>exact⟨0,VaN _,rfl,VbI _ _ _ _,VbI _ _ _ _,by simp[Vev],Kept.refl _⟩
 case round=>
  obtain⟨q,hq,rfl,hA,hB,ak,L⟩:=hrel
  by_cases ai:q<d.length
  .obtain⟨x,M⟩:∃x,d[q]? =some x:=⟨d[q],by simp[ai]⟩
   obtain⟨rfl,a6,hc⟩:=HR.out q x M;have a2:wr.cell? ⟨g,q,none⟩=some (.string ⟨x.toArray⟩):=L.cell hc
   have ht:d.take (q+1)=d.take q++ [x]:=by
    rw[Va9 ai];congr 2
    have:=Vav ai;rw[this]at M;simpa using M
   have HT:Hid _:=ht;clear ht HR;have av:∀k,u4.ownBlock=some k->h.heap.size<=k/\k<wr.heap.size:=fun k D=>VcH hA k D
   have aa:∀k,u5.ownBlock=some k->h.heap.size<=k/\k<wr.heap.size:=fun k D=>VcH hB k D
   have a8:=L.size
   go_wp2_with (at_builtin;refine Jat _ rfl (.tmp 26) (.tmp 28) 34 rfl h.heap.size 9 i0 (.string ⟨#[]⟩) 1 16 Vd6 hi au aM aG rfl (by decide) _ _ _ rfl (World.ownsRow.alloc hA _) ⟨wr.heap.size,0,none⟩ 1 1 [.string ⟨x.toArray⟩] rfl rfl ?c1 ?c2 ?c3 ?c4 ?c5 (by decide) ?_)
   case c1=>
    intro y u I
    match y,I with
    |0,I=>simp at I;subst I;simp[Addr.add]
   case c2=>
    intro u hu;simp at hu;subst hu;rfl
   case c3=>unfold maxLen;omega
   case c4=>omega
   case c5=>simp;omega
   intro ga aE O aF Y ay;have aP:=Y.size;simp at aP
   have af:Kept h O:=⟨Y.os.trans L.os,Y.output.trans L.output,by omega,fun k D=>by
    rw[Y.block k (by simp;omega) (fun e=>by have:=(av k e.symm).1;omega)];rw[VaA _ _ _ (by omega)];exact L.block k D⟩
   have an:O.ownsRow h.heap.size 9 1 u5 q ((d.take q).map (keyV kv)):=JaM hB (fun k D=>by
    rw[Y.block k (by simp;have:=(aa k D).2;omega) (fun e=>ak k e.symm D),VaA _ _ _ (aa k D).2])
   have aH:u5.ownBlock≠some ga:=fun e=>by
    rcases ay with z|z
    .exact ak ga z.symm e
    .have:=(aa ga e).2
     (try simp at z)
     omega
   have aR:(Instr.lookup 94 (.map (some mb)) (.string ⟨x.toArray⟩) false).run prog O= .ok (.agg #[.string (keyT kv x)]) O:=Jm2 O mb kv x ⟨(ac.trans af).blk aN.out.mp,aN.out.nd⟩;have aU:=IaA (keyT kv x) O;have aD:Hid _:=aF;have am:Hid _:=aH;clear Y ay hA aF aH hB av a2
   go_wp2_with (at_builtin;refine Jat _ rfl (.tmp 30) (.tmp 35) 34 rfl h.heap.size 9 i0 (.string ⟨#[]⟩) 1 16 Vd6 hi au aM aG rfl (by decide) _ _ _ rfl (World.ownsRow.alloc an _) ⟨O.heap.size,0,none⟩ 1 1 [.string (keyT kv x)] rfl rfl ?d1 ?d2 ?d3 ?d4 ?d5 (by decide) ?_)
   case d1=>
    intro y u I
    match y,I with
    |0,I=>simp at I;subst I;simp[Addr.add]
   case d2=>
    intro u hu;simp at hu;subst hu;rfl
   case d3=>unfold maxLen;omega
   case d4=>omega
   case d5=>simp;omega
   intro gb aw G ax V az;have aX:=V.size;simp at aX;have aW:=(VcH aD.out ga (by simp[Vev]))
   have T:Kept h G:=⟨V.os.trans af.os,V.output.trans af.output,by omega,fun k D=>by
    rw[V.block k (by simp;omega) (fun e=>by have:=(aa k e.symm).1;omega)];rw[VaA _ _ _ (by omega)];exact af.block k D⟩
   have a0:G.ownsRow h.heap.size 9 1 (.slice (some ⟨ga,0,none⟩) (q+1) aE) (q+1) ((d.take (q+1)).map encStr):=by
    have:(d.take (q+1)).map encStr=(d.map encStr).take q++ [.string ⟨x.toArray⟩]:=by rw[HT.out];simp[encStr]
    rw[this]
    exact JaM aD.out (fun k D=>by
     have e:k=ga:=by simpa[Vev]using D.symm
     subst e;rw[V.block k (by simp;omega) (fun e=>am.out e.symm),VaA _ _ _ aW.2])
   have aZ:G.ownsRow h.heap.size 9 1 (.slice (some ⟨gb,0,none⟩) (q+1) aw) (q+1) ((d.take (q+1)).map (keyV kv)):=by
    have:(d.take (q+1)).map (keyV kv)=(d.map (keyV kv)).take q++ [.string (keyT kv x)]:=by rw[HT.out];simp[keyV]
    rw[this];exact ax
   have aQ:∀g,(Value.slice (some ⟨ga,0,none⟩) (q+1) aE).ownBlock=some g->(Value.slice (some ⟨gb,0,none⟩) (q+1) aw).ownBlock≠some g:=fun g hg e=>by
    have J:ga=g:=by simpa[Vev]using hg
    have e2:gb=g:=by simpa[Vev]using e
    rcases az with z|z
    .exact am.out (by rw[<-z,J,e2])
    ·(try simp at z)
     omega
   clear V az ax an aa aR aU
   go_wp2
   exact⟨⟨q+1,by omega,by go_num,a0,aZ,aQ,T⟩,by simp[intOf];omega⟩
  .have aq:q=d.length:=by omega
   have aO:Hid _:=aq;clear aq HR;have hE:=Iap mb wr;have HF:Hid _:=Jc8 wr;have aV:=L.blk aA
   go_wp2_with fail
   refine Vac HF.out ?_
   rintro e G ⟨rfl,T⟩;have T:=Kept.below T;have U:=T.blk aV;have hK:=(((aS.trans aK).trans ac).trans L).trans T;clear HF hE;have c0:G.cell? ⟨w.heap.size,0,none⟩=some (.int .i64 0):=by simp[Vew,U]
   have c1:G.cell? ⟨w.heap.size,1,none⟩=some (.int .i64 0):=by simp[Vew,U]
   have c2:G.cell? ⟨w.heap.size,2,none⟩=some (.string ⟨#[]⟩):=by simp[Vew,U]
   have c3:G.cell? ⟨w.heap.size,3,none⟩=some (.int .i64 0):=by simp[Vew,U]
   have c4:G.cell? ⟨w.heap.size,4,none⟩=some (.int .i64 0):=by simp[Vew,U]
   have f0:∀j,G.frozen? ⟨w.heap.size,j,none⟩=false:=fun j=>by simp[World.frozen?,U]
   unfold Jaa
   go_wp2_with fail
   obtain⟨E,ae⟩:∃E,E=((((G.setCell ⟨w.heap.size,0,none⟩ (.int .i64 0)).setCell ⟨w.heap.size,1,none⟩ (.int .i64 0)).setCell ⟨w.heap.size,2,none⟩ (.string ⟨#[]⟩)).setCell ⟨w.heap.size,3,none⟩ (.int .i64 0)).setCell ⟨w.heap.size,4,none⟩ (.int .i64 0):=⟨_,rfl⟩
   have hF:E.heap[w.heap.size]? =some (.cells #[.int .i64 0,.int .i64 0,.string ⟨#[]⟩,.int .i64 0,.int .i64 0] 23 (0,0)):=by
    rw[ae];simp[World.setCell,U,Vay]
   have a4:Kept w E:=by
    rw[ae];refine⟨hK.1,hK.2,by simpa using hK.3,fun q hq=> ?_⟩
    have e:∀(W:World) (j:Nat) (v:Value),(W.setCell ⟨w.heap.size,j,none⟩ v).heap[q]? =W.heap[q]? :=fun W j v=>Vaj _ _ _ q (by intro z;simp at z;omega)
    exact(e _ _ _).trans ((e _ _ _).trans ((e _ _ _).trans ((e _ _ _).trans ((e _ _ _).trans (hK.4 q hq)))))
   have aL:∀k,k<wr.heap.size->k≠w.heap.size->E.heap[k]? =wr.heap[k]? :=fun k D hn=>by
    rw[ae];have e:∀(W:World) (j:Nat) (v:Value),(W.setCell ⟨w.heap.size,j,none⟩ v).heap[k]? =W.heap[k]? :=fun W j v=>Vaj _ _ _ k (by intro z;exact hn z)
    exact(e _ _ _).trans ((e _ _ _).trans ((e _ _ _).trans ((e _ _ _).trans ((e _ _ _).trans (T.block k D)))))
   have a9:w.heap.size<h.heap.size:=Vah aA
   have row:∀(u:Value) (xs:List Value),wr.ownsRow h.heap.size 9 1 u q xs->E.ownsRow 0 9 1 u q xs:=fun u xs aB=>by
    refine⟨aB.1,?_⟩
    rcases aB.2 with z|⟨g,cap,ah,J,e2,e3,e4⟩
    .exact .inl z
    .exact .inr ⟨g,cap,ah,J,VaN _,(aL g (Vah e3) (by omega)).trans e3,e4⟩
   have a1:E.ownsRow 0 9 1 u4 d.length (d.map encStr):=by
    have:=row _ _ hA;rw[aO.out,VbA]at this;exact this
   have aY:E.ownsRow 0 9 1 u5 d.length (d.map (keyV kv)):=by
    have:=row _ _ hB;rw[aO.out,VbA]at this;exact this
   clear aL row hA hB;rw[<-ae];clear ae;have d0:E.cell? ⟨w.heap.size,0,none⟩=some (.int .i64 0):=by simp[Vew,hF]
   have d1:E.cell? ⟨w.heap.size,1,none⟩=some (.int .i64 0):=by simp[Vew,hF]
   have d2:E.cell? ⟨w.heap.size,2,none⟩=some (.string ⟨#[]⟩):=by simp[Vew,hF]
   have d3:E.cell? ⟨w.heap.size,3,none⟩=some (.int .i64 0):=by simp[Vew,hF]
   have d4:E.cell? ⟨w.heap.size,4,none⟩=some (.int .i64 0):=by simp[Vew,hF]
   exact VaI (v:= .tuple #[u4,u5,.bool false,Jaa 0 0 ⟨#[]⟩]) (by simp[results,results21,go_sem,Jaa,d0,d1,d2,d3,d4]) rfl ⟨u4,u5,kv,d,rfl,Z.out.1,Z.out.2.1,aC.out.1,aC.out.2,a1,aY,a4⟩
theorem JdF:Jdg=Jas:=rfl
inductive RdO where
 |bad (what loc:Int)|good (t:Ty) (names:List BA)
def TOut(A:Nat->Addr):RdO->World->Ending->World->Prop
 | .bad what loc,w,e,w'=>Kept w w'/\∃T u,e= .returned (.tuple #[.nilIface,.iface T u])/\∀d,Kept w' d->Calls prog 37 #[.iface T u] d fun e h=>e= .returned (Jaa what loc ⟨#[]⟩)/\Kept d h
 | .good t names,w,e,w'=>Kept w w'/\∃T u vb,e= .returned (.tuple #[.iface T u,.nilIface])/\PTyR w' vb w.heap.size w'.heap.size t (.iface T u)/\vb.Nodup/\NB w' vb names
def RdO.ok:RdO->Prop
 | .bad what _=>0<what
 | .good t names=>sz t<=120/\WT names.length t/\NW names/\(∀m,m∈names->0<m.size/\m.size<=300)/\(∀i,i<names.length->Occ i t)/\names.length<=301
def rdO(s:BA):RdO:=
 if 300<s.size then .bad 1 0
 else match Jaq (lexT s) (2*(lexT s).length+2) [] 0 (-1)with
  |none=> .bad 1 0
  |some (t,names,K,B)=>if 0<=Jab (lexT s) ⟨#[101,110,100]⟩ K B then .bad 2 (Jab (lexT s) ⟨#[101,110,100]⟩ K B)else if 120<sz t then .bad 8 0 else .good t names
variable {A:Nat->Addr}
theorem Jk4(s:BA)(hm:s.size<=9223372036854775807):(∀W,Glb A W->Calls prog 80 #[.string s] W (TOut A (rdO s) W))/\(rdO s).ok:=by
 unfold rdO
 by_cases O:300<s.size
 .rw[Vat O];refine⟨fun W d=>(Jff s W d O hm).mono ?_,by show(0:Int)<1;omega⟩
  rintro e w' ⟨rfl,D⟩;exact⟨D,_,_,rfl,fun T I=>Jbs T ((d.kept D).kept I) 0 (by omega)⟩
 .rw[Vaq O];have O:s.size<=300:=by omega
  have M:PEnv s Jas (lexT s):=⟨O,JcH,by unfold lexT;rw[JdF]⟩
  have aa:=(Jkh M).1;obtain⟨⟨t,names,K,B⟩,L⟩:=(JeS (lexT s) M.good (lexT s).length).1 [] 0 (-1) (2*(lexT s).length+2) aa (by omega) (by omega);rw[L]
  have ah:(lexT s).length<=301:=by
   have:=JcV s Jdg (s.size+1) 0;unfold lexT;omega
  have ag:Jab (lexT s) ⟨#[101,110,100]⟩ K B<0->B<0:=fun h=>(Jb4 h).1
  have V:=fun W (d:Glb A W)=>JeD M W d _ t names K B L
  simp only
  by_cases hF:0<=Jab (lexT s) ⟨#[101,110,100]⟩ K B
  .rw[Vat hF];refine⟨fun W d=>(V W d).mono ?_,by show(0:Int)<2;omega⟩
   rintro e w' ⟨D,h⟩
   rcases h with⟨b,l,E,J,G⟩|⟨E,_⟩|⟨E,_⟩
   .refine⟨D,_,_,J,fun T I=> ?_⟩
    rw[E];exact(Jc9 T ((d.kept D).kept I) ⟨b,0,none⟩ l (by have:=I.blk G;simp[Vew,this])).mono (fun e w'' ⟨a1,a2⟩=>⟨a1,Kept.below a2⟩)
   .omega
   .omega
  .rw[Vaq hF];have hF:Jab (lexT s) ⟨#[101,110,100]⟩ K B<0:=by omega
   by_cases Y:120<sz t
   .rw[Vat Y];refine⟨fun W d=>(V W d).mono ?_,by show(0:Int)<8;omega⟩
    rintro e w' ⟨D,h⟩
    rcases h with⟨b,l,E,J,G⟩|⟨E,_,G⟩|⟨E,J,_⟩
    .omega
    .exact⟨D,_,_,G,fun T I=>Jbs T ((d.kept D).kept I) 4 (by omega)⟩
    .omega
   .rw[Vaq Y];have U:=Jmt M L hF;have ac:=(Jji (lexT s) _).1 _ _ _ _ _ _ _ L (ag hF);have af:=((Jcj (lexT s) M.good _).1 _ _ _ _ _ _ _ L aa (NmOk.nil _)).2;refine⟨fun W d=>(V W d).mono ?_,by omega,ac.2.2.2,U.1,U.2.1,U.2.2,by have:=af.len;omega⟩
    rintro e w' ⟨D,h⟩
    rcases h with⟨b,l,E,J,G⟩|⟨E,J,G⟩|⟨E,J,v,vb,G,Z,e5,e6,e7⟩
    .omega
    .omega
    .obtain⟨ae,u,rfl⟩:=Z.iface;exact⟨D,ae,u,vb,G,Z,e6,e7⟩
def COut:RdO->Value
 | .bad what loc=> .tuple #[.string ⟨#[]⟩,Jaa what loc ⟨#[]⟩]
 | .good t _=> .tuple #[.string (canT t),Jaa 0 0 ⟨#[]⟩]
theorem Jfc(s:BA)(w:World)(G:Glb A w)(I:s.size<=9223372036854775807):Calls prog 18 #[.string s] w fun e w'=>e= .returned (COut (rdO s))/\Kept w w':=by
 unfold rdO
 by_cases d:300<s.size
 .rw[Vat d];exact JgE s w G d I
 .rw[Vaq d];have d:s.size<=300:=by omega
  have D:PEnv s Jas (lexT s):=⟨d,JcH,by unfold lexT;rw[JdF]⟩
  have T:=(Jkh D).1;obtain⟨⟨t,names,K,B⟩,E⟩:=(JeS (lexT s) D.good (lexT s).length).1 [] 0 (-1) (2*(lexT s).length+2) T (by omega) (by omega);rw[E];simp only;refine(Jhy D w G _ t names K B E).mono ?_
  rintro e w' ⟨J,M,L,O⟩;refine⟨?_,J⟩
  by_cases hF:0<=Jab (lexT s) ⟨#[101,110,100]⟩ K B
  .rw[Vat hF];exact M hF
  .rw[Vaq hF]
   by_cases h:120<sz t
   .rw[Vat h];exact L (by omega) h
   .rw[Vaq h];exact O (by omega) (by omega)
def lets(k:Nat):List BA:=(Veu k).map letM
theorem Jdj(k:Nat):(lets k).length=k:=by simp[lets]
theorem Jd6(h:n<k):(lets k).getD n ⟨#[]⟩=letM n:=by simp[lets,Vet,h]
theorem Jcx(n:Nat):(letM n).data.toList=if n<26 then[Vex (97+n)]else[Vex (97+n%26),Vex (48+n/26)]:=by
 unfold letM
 split
 .rfl
 .simp[JaG]
theorem Jfp(h:n<256):(Vex n).toNat=n:=by rw[VcT];omega
variable {b:Nat}
theorem Jme{a:Nat}(E:a<260)(G:b<260)(e:letM a=letM b):a=b:=by
 have d:(letM a).data.toList=(letM b).data.toList:=by rw[e]
 rw[Jcx,Jcx]at d
 split at d<;>split at d
 .simp only[Vb5,Vbo]at d;have h:=VbH Vey d;rw[Jfp (by omega),Jfp (by omega)]at h;omega
 .simp at d
 .simp at d
 .simp only[Vb5,Vbo]at d;have h:=VbH Vey d.1;have D:=VbH Vey d.2;rw[Jfp (by omega),Jfp (by omega)]at h D;omega
theorem Jmf(h:n<260):OwN (letM n):=by
 have E:(letM n).data.toList.length<=2:=by rw[Jcx];split<;>simp
 have low:∀k,k<26->lowI ((Vex (97+k)).toNat:Int)=true:=fun k G=>by
  rw[Jfp (by omega)];unfold lowI;simp only[Vaz,Va1];omega
 have I:∀k,k<10->figI ((Vex (48+k)).toNat:Int)=true:=fun k G=>by
  rw[Jfp (by omega)];unfold figI;simp only[Vaz,Va1];omega
 refine⟨?_,?_,by omega,?_,?_⟩
 .rw[Jcx]
  split
  .exact⟨_,_,rfl,low n (by omega)⟩
  .exact⟨_,_,rfl,low (n%26) (by omega)⟩
 .rw[Jcx];intro d D;unfold lfI
  split at D
  .simp only[VaW,Vbr,VcA]at D;rw[D,low n (by omega)];rfl
  .simp only[VaW,Vbr,VcA]at D
   rcases D with rfl|rfl
   .rw[low (n%26) (by omega)];rfl
   .rw[I (n/26) (by omega)];simp
 .cases e:Jag (letM n) ⟨#[105,110,116]⟩with
  |false=>rfl
  |true=>
   rw[(Jaf _ _).1 e]at E;exact absurd E (by decide)
 .cases e:Jag (letM n) ⟨#[98,111,111,108]⟩with
  |false=>rfl
  |true=>
   rw[(Jaf _ _).1 e]at E;exact absurd E (by decide)
theorem Jkg(h:k<=260):okN (lets k):=by
 refine⟨?_,fun m D=> ?_⟩
 .rw[VcS,VaF];intro i j d E G e;rw[Jdj]at d E;simp only[lets,List.getElem_map,List.getElem_range]at e;have:=Jme (by omega) (by omega) e;omega
 .obtain⟨i,d,rfl⟩:=Vbj.1 D;exact Jmf (by have:=VcC.1 d;omega)
theorem Jgd(k m:Nat)(D:k<=m):∀q,q<=k->∀n,n<m->(cnA (Veu k) m q).getD n ⟨#[]⟩=if n<q then letM n else⟨#[]⟩
 |0,_,n,d=>by simp[cnA,Vet,d]
 |q+1,J,n,d=>by
  have G:=Jgd k m D q (by omega) n d;have E:=Jhd (Veu k) m q;have I:(Veu k).getD q 0=q:=by simp[Vet,show q<k from by omega]
  rw[cnA,I]
  by_cases e:n=q
  .subst e;rw[Vat (by omega)];simp[Vet,E,d]
  .have:((cnA (Veu k) m q).set q (letM q)).getD n ⟨#[]⟩=(cnA (Veu k) m q).getD n ⟨#[]⟩:=by
    simp[Vet,VbJ,Vdg e]
   rw[this,G]
   by_cases h:n<q
   .rw[Vat h,Vat (by omega)]
   .rw[Vaq h,Vaq (by omega)]
theorem JgT(h:WT m t)(l E:List BA)(G:∀n,n<m->l.getD n ⟨#[]⟩=E.getD n ⟨#[]⟩):Ide l t=Ide E t:=by
 induction h with
 |var n I=>rw[Jbb,Jbb];exact G n I
 |int=>rw[JbV,JbV]
 |bool=>rw[Jbq,Jbq]
 |list a _ d=>rw[JbU,JbU,d]
 |pair a b _ _ d D=>rw[JbC,JbC,d,D]
 |fn a b _ _ d D=>rw[Jdt,Jdt,d,D]
theorem Jgb(h:FO t 0 k):canT t=Ide (lets k) t:=by
 unfold canT;have D:=h.vars;simp only[List.range_zero]at D;rw[D]
 have E:k<=mxL (Veu k):=by
  cases k with
  |zero=>omega
  |succ k=>exact Jht (VcC.2 (by omega))
 refine JgT h.wt _ _ (fun n d=> ?_)
 unfold cnN;rw[List.length_range,Jgd k _ E k (Vau _) n (by omega),Vat d,Jd6 d]
theorem Jrs(h:FO t 0 k)(I:k<=260)(Z:(Ide (lets k) t).size<=300):rdO (Ide (lets k) t)=if 120<sz t then .bad 8 0 else .good t (lets k):=by
 obtain⟨ps,W,J,Y,L⟩:=Jry (lets k) (Jkg I) h (by rw[Jdj];omega);generalize U:Ide (lets k) t=T at*;have E:=L T 0 [] (by unfold Rs bsL;simp) (.inl rfl);rw[Jg9,Vby]at E;have V:=E.le;obtain⟨G,d,M⟩:=Jhp E (T.size+1) rfl (by omega);have O:Jan T Jdg (T.size+1) 0=lexT T:=rfl;rw[O]at G d M;have D:=J (lexT T) (2*(lexT T).length+2) 0 G (by rw[Vby,d];decide) (by omega);simp only[List.take_zero,Vby]at D;have ht:(lets k).take k=lets k:=by rw[Vct];rw[Jdj];omega
 rw[ht]at D;unfold rdO;rw[Vaq (by omega),D];simp only;rw[(Jam d).2,Vaq (by decide)]
def Tt.ty:Tt->Ty
 | .int=> .mk ⟨#[105,110,116]⟩ 0 []
 | .bool=> .mk ⟨#[98,111,111,108]⟩ 0 []
 | .v i=> .mk ⟨#[]⟩ i []
 | .l c=> .mk ⟨#[108,105,115,116]⟩ 0 [c.ty]
 | .p c d=> .mk ⟨#[112,97,105,114]⟩ 0 [c.ty,d.ty]
 | .f c d=> .mk ⟨#[102,117,110]⟩ 0 [c.ty,d.ty]
variable {σ:St}
theorem Jnt(J:σ.length<fuN):∀(n:Nat) {r:TR} {t:Tt},Tr σ r t->t.ht<n->JeT n σ r=some t.ty:=by
 intro n
 induction n with
 |zero=>intro r t _ h;omega
 |succ n d=>
  intro r t h E;obtain⟨L,I,G⟩:=h.rt;simp only[JeT,JaK I J,Vad]
  cases G with
  |int=>rfl
  |bool=>rfl
  |vr i nm g e=>simp only[e,Tt.ty]
  |ls i x a e k=>
   simp only[Tt.ht]at E;simp only[e,d k (by omega),Vad,Tt.ty]
  |pr i x y a b e k D=>
   simp only[Tt.ht]at E;simp only[e,d k (by omega),d D (by omega),Vad,Tt.ty]
  |ar i x y a b e k D=>
   simp only[Tt.ht]at E;simp only[e,d k (by omega),d D (by omega),Vad,Tt.ty]
theorem Tt.ht_sz:∀t:Tt,t.ht<t.sz
 | .int=>by simp[Tt.ht,Tt.sz]
 | .bool=>by simp[Tt.ht,Tt.sz]
 | .v i=>by simp[Tt.ht,Tt.sz]
 | .l c=>by have:=c.ht_sz;simp only[Tt.ht,Tt.sz];omega
 | .p c d=>by have:=c.ht_sz;have:=d.ht_sz;simp only[Tt.ht,Tt.sz];omega
 | .f c d=>by have:=c.ht_sz;have:=d.ht_sz;simp only[Tt.ht,Tt.sz];omega
theorem Jf0:∀t:Tt,sz t.ty=t.sz
 | .int=>rfl
 | .bool=>rfl
 | .v i=>rfl
 | .l c=>by simp only[Tt.ty,sz,szs,Tt.sz,Jf0 c];try omega
 | .p c d=>by simp only[Tt.ty,sz,szs,Tt.sz,Jf0 c,Jf0 d];omega
 | .f c d=>by simp only[Tt.ty,sz,szs,Tt.sz,Jf0 c,Jf0 d];omega
def Tt.vsl:Tt->List Nat->List Nat
 | .v i,k=>if k.contains i then k else k++ [i]
 | .l c,k=>c.vsl k
 | .p c d,k=>d.vsl (c.vsl k)
 | .f c d,k=>d.vsl (c.vsl k)
 |_,k=>k
theorem JcY:∀(t:Tt) (l:List Nat),Jao t.ty l=t.vsl l
 | .int,l=>JcI l
 | .bool,l=>Jb9 l
 | .v i,l=>by rw[Tt.ty,JaZ];rfl
 | .l c,l=>by rw[Tt.ty,Jbn,JcY c];rfl
 | .p c d,l=>by rw[Tt.ty,Jbo,JcY c,JcY d];rfl
 | .f c d,l=>by rw[Tt.ty,Jcl,JcY c,JcY d];rfl
theorem JcJ:∀(t:Tt) (l:List Nat),∃r,t.vsl l=l++r
 | .int,l=>⟨[],by simp[Tt.vsl]⟩
 | .bool,l=>⟨[],by simp[Tt.vsl]⟩
 | .v i,l=>by
  simp only[Tt.vsl]
  split
  .exact⟨[],by simp⟩
  .exact⟨[i],rfl⟩
 | .l c,l=>JcJ c l
 | .p c d,l=>by
  obtain⟨r,h⟩:=JcJ c l;obtain⟨q,g⟩:=JcJ d (c.vsl l);exact⟨r++q,by simp only[Tt.vsl];rw[g,h,Val]⟩
 | .f c d,l=>by
  obtain⟨r,h⟩:=JcJ c l;obtain⟨q,g⟩:=JcJ d (c.vsl l);exact⟨r++q,by simp only[Tt.vsl];rw[g,h,Val]⟩
variable {v:Nat}
theorem JlE{t:Tt}{l:List Nat}(h:v∈l):v∈t.vsl l:=by
 obtain⟨r,e⟩:=JcJ t l;rw[e];simp[h]
theorem Jcm:∀{t:Tt} {l:List Nat} {v:Nat},t.has v->v∈t.vsl l
 | .v i,l,v,h=>by
  simp only[Tt.has]at h;subst h;simp only[Tt.vsl]
  split
  .rename_i e;exact VaX.1 e
  .simp
 | .l c,l,v,h=>Jcm (t:=c) h
 | .p c d,l,v,h=>by
  rcases h with h|h
  .exact JlE (t:=d) (Jcm (t:=c) (l:=l) h)
  .exact Jcm (t:=d) h
 | .f c d,l,v,h=>by
  rcases h with h|h
  .exact JlE (t:=d) (Jcm (t:=c) (l:=l) h)
  .exact Jcm (t:=d) h
theorem Jbx:∀{t:Tt} {l:List Nat} {v:Nat},v∈t.vsl l->v∈l\/t.has v
 | .int,l,v,h=> .inl h
 | .bool,l,v,h=> .inl h
 | .v i,l,v,h=>by
  simp only[Tt.vsl]at h
  split at h
  .exact .inl h
  .rcases Vbd.1 h with h|h
   .exact .inl h
   .exact .inr (Va4.1 h)
 | .l c,l,v,h=>Jbx (t:=c) h
 | .p c d,l,v,h=>by
  rcases Jbx (t:=d) h with h|h
  .rcases Jbx (t:=c) h with h|h
   .exact .inl h
   .exact .inr (.inl h)
  .exact .inr (.inr h)
 | .f c d,l,v,h=>by
  rcases Jbx (t:=d) h with h|h
  .rcases Jbx (t:=c) h with h|h
   .exact .inl h
   .exact .inr (.inl h)
  .exact .inr (.inr h)
theorem Jcc:∀(t:Tt) {l:List Nat},l.Nodup->(t.vsl l).Nodup
 | .int,l,h=>h
 | .bool,l,h=>h
 | .v i,l,h=>by
  simp only[Tt.vsl]
  split
  .exact h
  .rename_i e;rw[VbU];refine⟨h,by simp,fun a E b D=> ?_⟩
   rw[Va4]at D;subst D;intro z;subst z;exact e (VaX.2 E)
 | .l c,l,h=>Jcc c h
 | .p c d,l,h=>Jcc d (Jcc c h)
 | .f c d,l,h=>Jcc d (Jcc c h)
def Tt.num(L:List Nat)(t:Tt):Tt:=t.sub fun v=> .v (L.idxOf v)
theorem JdX:∀(t:Tt) (l r:List Nat),FO (t.num (t.vsl l++r)).ty l.length (t.vsl l).length
 | .int,l,r=> .int _
 | .bool,l,r=> .bool _
 | .v i,l,r=>by
  simp only[Tt.num,Tt.sub,Tt.ty,Tt.vsl]
  split
  .rename_i e;have D:=VaX.1 e;rw[VcZ,Vat D];exact .old _ _ (VdT D)
  .rename_i e;have D:i∉l:=fun z=>e (VaX.2 z)
   rw[Val,VcZ,Vaq D];simp only[VaV,VaK,List.idxOf_cons_self,Vby,Vap,VaG];exact .new _
 | .l c,l,r=> .list _ _ _ (JdX c l r)
 | .p c d,l,r=>by
  obtain⟨q,g⟩:=JcJ d (c.vsl l);have h:=JdX c l (q++r);have E:=JdX d (c.vsl l) r;rw[<-Val,<-g]at h;exact .pair _ _ _ _ _ h E
 | .f c d,l,r=>by
  obtain⟨q,g⟩:=JcJ d (c.vsl l);have h:=JdX c l (q++r);have E:=JdX d (c.vsl l) r;rw[<-Val,<-g]at h;exact .fn _ _ _ _ _ h E
theorem Jqd(t:Tt)(θ:Nat->Tt)(d:∀i,∃j,θ i= .v j):(t.sub θ).ty.kind=t.ty.kind:=by
 cases t with
 |v i=>obtain⟨j,e⟩:=d i;simp only[Tt.sub,e,Tt.ty,Ty.kind]
 |_=>rfl
theorem JeK(N D:List BA){ρ:Nat->Nat}:∀{t:Tt},(∀v,t.has v->D.getD (ρ v) ⟨#[]⟩=N.getD v ⟨#[]⟩)->Ide D (t.sub fun v=> .v (ρ v)).ty=Ide N t.ty
 | .int,_=>rfl
 | .bool,_=>rfl
 | .v i,h=>by simp only[Tt.sub,Tt.ty,Jbb];exact h i rfl
 | .l c,h=>by simp only[Tt.sub,Tt.ty,JbU];rw[JeK N D (t:=c) h]
 | .p c d,h=>by simp only[Tt.sub,Tt.ty,JbC];rw[JeK N D (t:=c) fun v q=>h v (.inl q),JeK N D (t:=d) fun v q=>h v (.inr q)]
 | .f c d,h=>by simp only[Tt.sub,Tt.ty,Jdt];rw[JeK N D (t:=c) fun v q=>h v (.inl q),JeK N D (t:=d) fun v q=>h v (.inr q),Jqd c _ fun i=>⟨_,rfl⟩]
theorem JnO{d:List Nat}(E:d.Nodup){m:Nat}(I:∀v,v∈d->v<m):∀(q:Nat),q<=d.length->∀k (D:k<d.length),k<q->(cnA d m q).getD d[k] ⟨#[]⟩=letM k
 |0,_,k,_,h=>by omega
 |q+1,T,k,D,h=>by
  have M:=Jhd d m q;have G:q<d.length:=by omega
  have O:d.getD q 0=d[q]:=by simp[Vet,G]
  have J:d[k]<m:=I _ (Vbw D);rw[cnA,O]
  by_cases e:k=q
  .subst e;simp[Vet,M,J]
  .have L:d[q]≠d[k]:=fun z=>by
    rw[VcS,VaF]at E
    rcases Nat.lt_or_gt_of_ne e with h|h
    .exact E k q D G h z.symm
    .exact E q k G D h z
   have:((cnA d m q).set d[q] (letM q)).getD d[k] ⟨#[]⟩=(cnA d m q).getD d[k] ⟨#[]⟩:=by
    simp[Vet,VbJ,L]
   rw[this];exact JnO E I q (by omega) k D (by omega)
theorem Jeg(t:Tt):canT t.ty=Ide (lets (t.vsl []).length) (t.num (t.vsl [])).ty:=by
 unfold canT;rw[JcY];unfold Tt.num;refine(JeK (cnN (t.vsl [])) (lets (t.vsl []).length) (ρ:=(t.vsl []).idxOf) fun v h=> ?_).symm
 have D:v∈t.vsl []:=Jcm h;have d:=VdT D;rw[Jd6 d];have:=JnO (Jcc t VcB) (m:=mxL (t.vsl [])) (fun u E=>Jht E) (t.vsl []).length (Vau _) _ d d;rw[List.getElem_idxOf d]at this;exact this.symm
theorem JcK{ρ:Nat->Nat}:∀{t:Tt} {l:List Nat},(∀i j,(i∈l\/t.has i)->(j∈l\/t.has j)->ρ i=ρ j->i=j)->(t.sub fun v=> .v (ρ v)).vsl (l.map ρ)=(t.vsl l).map ρ
 | .int,l,_=>rfl
 | .bool,l,_=>rfl
 | .v i,l,h=>by
  simp only[Tt.sub,Tt.vsl]
  by_cases D:i∈l
  .rw[Vat (VaX.2 (VcO D)),Vat (VaX.2 D)]
  .have:ρ i∉l.map ρ:=fun z=>by
    obtain⟨j,E,G⟩:=Vbj.1 z;have:=h j i (.inl E) (.inr rfl) G;subst this;exact D E
   rw[Vaq (fun z=>this (VaX.1 z)),Vaq (fun z=>D (VaX.1 z))];simp
 | .l c,l,h=>JcK (t:=c) h
 | .p c d,l,h=>by
  simp only[Tt.sub,Tt.vsl];rw[JcK (t:=c) fun i j a b=>h i j (a.imp_right .inl) (b.imp_right .inl),JcK (t:=d) fun i j a b=>h i j (a.elim (fun a=>(Jbx a).imp_right .inl) fun a=> .inr (.inr a)) (b.elim (fun a=>(Jbx a).imp_right .inl) fun a=> .inr (.inr a))]
 | .f c d,l,h=>by
  simp only[Tt.sub,Tt.vsl];rw[JcK (t:=c) fun i j a b=>h i j (a.imp_right .inl) (b.imp_right .inl),JcK (t:=d) fun i j a b=>h i j (a.elim (fun a=>(Jbx a).imp_right .inl) fun a=> .inr (.inr a)) (b.elim (fun a=>(Jbx a).imp_right .inl) fun a=> .inr (.inr a))]
theorem Jia{ρ:Nat->Nat}:∀{L:List Nat} {v:Nat},v∈L->(∀i j,i∈L->j∈L->ρ i=ρ j->i=j)->(L.map ρ).idxOf (ρ v)=L.idxOf v
 | [],v,h,_=>by cases h
 |a::L,v,h,d=>by
  simp only[VaP,List.idxOf_cons]
  by_cases e:a=v
  .subst e;simp
  .have D:ρ a≠ρ v:=fun z=>e (d a v (by simp) h z)
   have E:v∈L:=by rcases VaW.1 h with h|h;exact absurd h.symm e;exact h
   rw[VbL.2 D,VbL.2 e];simp only[cond_false];rw[Jia E fun i j a b=>d i j (by simp[a]) (by simp[b])]
theorem Jpw{t:Tt}(h:∀i j,t.has i->t.has j->ρ i=ρ j->i=j):(t.sub fun v=> .v (ρ v)).num ((t.sub fun v=> .v (ρ v)).vsl [])=t.num (t.vsl [])/\((t.sub fun v=> .v (ρ v)).vsl []).length=(t.vsl []).length:=by
 have e:(t.sub fun v=> .v (ρ v)).vsl []=(t.vsl []).map ρ:=JcK (l:= []) fun i j a b=>h i j (a.resolve_left (by simp)) (b.resolve_left (by simp))
 rw[e];refine⟨?_,by simp⟩
 unfold Tt.num;rw[Tt.sub_sub];refine Tt.sub_ext fun v d=> ?_
 simp only[Tt.sub];rw[Jia (Jcm d) fun i j a b=>h i j ((Jbx a).resolve_left (by simp)) ((Jbx b).resolve_left (by simp))]
theorem JjA{t:Tt}(h:∀i j,t.has i->t.has j->ρ i=ρ j->i=j):canT (t.sub fun v=> .v (ρ v)).ty=canT t.ty:=by
 obtain⟨d,D⟩:=Jpw h;rw[Jeg,Jeg,d,D]
end Go.Proofs.YtleenphlgbklmaaGreatDoor
