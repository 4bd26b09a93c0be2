import Derived.Test.YtleenphlgbklmaaGreatDoorACFaultS
import Derived.Test.YtleenphlgbklmaaGreatDoorACWLet
set_option linter.unusedVariables false
set_option linter.unusedSimpArgs false
set_option maxRecDepth 100000
set_option maxHeartbeats 8000000
open List renaming range → Veu, getD → Vev
namespace Go.Proofs.YtleenphlgbklmaaGreatDoor
open Go.RowKit
open World renaming cell? → Vet
open Instr renaming findNow → Vew, checkKey → Vex, mapUpdate → Vey
open MapKept renaming IsKey → Vez
open Tryz
variable {i lo hi k' loc:Nat}{x q:BA}{a b:World}{bad bad':Int}{S:Nat->Prop}{v:Value}{names':List BA}
variable {kd:Nat}
theorem PRd.c{w:World}{rb:Nat}{s:BA}(h:PRd w rb s kd i x):w.cell? ⟨rb,0,none⟩=some (.string s)/\w.cell? ⟨rb,1,none⟩=some (.int .i64 kd)/\w.cell? ⟨rb,2,none⟩=some (.int .i64 i)/\w.cell? ⟨rb,3,none⟩=some (.string x):=by
 have d:w.heap[rb]? =some (.cells #[.string s,.int .i64 kd,.int .i64 i,.string x] 256 (0,0)):=h;refine⟨?_,?_,?_,?_⟩<;>simp[Vet,d]
def ThrS(w:World)(loc:Nat)(e:Ending)(w':World):Prop:=∃b,e=thrown (.iface 134 (.pointer (some ⟨b,0,none⟩)))/\w'.heap[b]? =some (.cells #[.int .i64 loc] 145 (0,0))/\w.heap.size<=b/\Kept w w'
theorem JfJ(w:World)(rb:Nat)(s x t:BA)(kd i:Nat)(h:PRd w rb s kd i x):
  Calls prog 129 #[.pointer (some ⟨rb,0,none⟩),.string t] w fun e w'=>e= .returned (.bool (x.toList==t.toList))/\w'=w:=by
 obtain⟨c0,E,c2,d⟩:=h.c;generalize D:(x.toList==t.toList)=r
 go_enter func129,ntmps129
 go_wp2
 go_ret
 exact⟨rfl,rfl⟩
theorem JeC(w:World)(rb:Nat)(s x:BA)(kd i:Nat)(h:PRd w rb s kd i x):
  Calls prog 134 #[.pointer (some ⟨rb,0,none⟩)] w fun e w'=>ThrS w i e w':=by
 obtain⟨c0,G,c2,E⟩:=h.c;clear h
 go_enter func134,ntmps134
 go_wp2_with (go_at_call 99;refine Vac (Jcf _ _) ?_;rintro e w' ⟨D,d⟩;rw[d,D];clear d D w' e)
 exact⟨rfl,_,rfl,Vag _ _,Vau _,Kept.below ((Vbh _ _).alloc (by simp) _)⟩
theorem Jez(w:World)(rb:Nat)(s x:BA)(kd i:Nat)(h:PRd w rb s kd i x)(d:kd=0):
  Calls prog 98 #[.pointer (some ⟨rb,0,none⟩)] w fun e w'=>e= .returned (.tuple #[])/\w'=w:=by
 obtain⟨c0,E,c2,D⟩:=h.c;subst d;clear h
 go_enter func98,ntmps98
 go_wp2
 go_end0
 exact⟨rfl,rfl⟩
theorem JeA(w:World)(rb:Nat)(s x:BA)(kd i:Nat)(h:PRd w rb s kd i x)(L:kd≠0):
  Calls prog 98 #[.pointer (some ⟨rb,0,none⟩)] w fun e w'=>ThrS w i e w':=by
 have E:Hid _:=JeC w rb s x kd i h;obtain⟨c0,M,c2,O⟩:=h.c;have J:((kd:Int)==0)=false:=by simp;omega
 clear h
 go_enter func98,ntmps98
 go_wp2_with (go_at_call 134;refine Vac E.out ?_;rintro e w' ⟨b,d,I,D,G⟩;rw[d];clear d e)
 exact⟨rfl,b,rfl,I,D,G⟩
theorem Jhv(w:World)(rb:Nat)(s x t:BA)(kd i:Nat)(h:PRd w rb s kd i x)(E:(x.toList==t.toList)=false):
  Calls prog 173 #[.pointer (some ⟨rb,0,none⟩),.string t] w fun e w'=>ThrS w i e w':=by
 have J:Hid _:=JeC w rb s x kd i h;have d:Hid _:=JfJ w rb s x t kd i h;rw[E]at d;clear h E
 go_enter func173,ntmps173
 go_wp2_with (first|(go_at_call 129;refine Vac d.out ?_;rintro e w' ⟨rfl,D⟩;rw[D];clear D w')|(go_at_call 134;refine Vac J.out ?_;rintro e w' ⟨b,G,M,I,L⟩;rw[G];clear G e))
 exact⟨rfl,b,rfl,M,I,L⟩
theorem JgD(w:World)(rb:Nat)(s x t:BA)(kd i:Nat)(h:PRd w rb s kd i x)(I:(x.toList==t.toList)=true)(J:s.size<=300)(hi:i+x.size<=s.size)(d:Nat)(y:BA)(k':Nat)(G:pTok s (run blI s (i+x.size))=some (d,y,k')):
  Calls prog 173 #[.pointer (some ⟨rb,0,none⟩),.string t] w fun e w'=>e= .returned (.tuple #[])/\Kp (·=rb) w w'/\PRd w' rb s d (run blI s (i+x.size)) y:=by
 have L:Hid _:=Jew w rb s x kd i h J hi d y k' G;have D:Hid _:=JfJ w rb s x t kd i h;rw[I]at D;clear h I G
 go_enter func173,ntmps173
 go_wp2_with (first|(go_at_call 129;refine Vac D.out ?_;rintro e w' ⟨rfl,E⟩;rw[E];clear E w')|(go_at_call 128;refine Vac L.out ?_;rintro e w' ⟨rfl,hK,M⟩))
 go_end0
 exact⟨rfl,hK,M⟩
theorem JgC(w:World)(rb:Nat)(s x t:BA)(kd i:Nat)(h:PRd w rb s kd i x)(G:(x.toList==t.toList)=true)(L:s.size<=300)(hi:i+x.size<=s.size)(E:pTok s (run blI s (i+x.size))=none):
  Calls prog 173 #[.pointer (some ⟨rb,0,none⟩),.string t] w fun e w'=>ThrS w (run blI s (i+x.size)) e w':=by
 have O:Hid _:=Jev w rb s x kd i h L hi E;have d:Hid _:=JfJ w rb s x t kd i h;rw[G]at d;clear h G E;generalize run blI s (i+x.size)=U at*
 go_enter func173,ntmps173
 go_wp2_with (first|(go_at_call 129;refine Vac d.out ?_;rintro e w' ⟨rfl,D⟩;rw[D];clear D w')|(go_at_call 128;refine Vac O.out ?_;rintro e w' ⟨b,I,T,J,M⟩;rw[I];clear I e))
 exact⟨rfl,b,rfl,T,J,Kept.below M⟩
variable {A:Nat->Addr}
theorem JgF(s:BA)(w:World)(D:Glb A w)(h:300<s.size)(G:s.size<=9223372036854775807):
  Calls prog 96 #[.string s] w fun e w'=>e=thrown (.iface 407 (.pointer (some (A 0))))/\Kept w w':=by
 have c0:=D.c0;clear D
 go_enter func96,ntmps96
 go_wp2_with (go_at_call 99;refine Vac (Jbl _ _) ?_;rintro e w' ⟨E,d⟩;rw[d,E];clear d E w' e)
 exact⟨rfl,rfl,Kept.refl _⟩
theorem JgH(s:BA)(w:World)(I:s.size<=300)(d:Nat)(y:BA)(k':Nat)(D:pTok s (run blI s 0)=some (d,y,k')):
  Calls prog 96 #[.string s] w fun e w'=>e= .returned (.pointer (some ⟨w.heap.size,0,none⟩))/\Kept w w'/\PRd w' w.heap.size s d (run blI s 0) y:=by
 have h:PRd (w.alloc (.cells #[.string s,.int .i64 ((0:Nat):Int),.int .i64 ((0:Nat):Int),.string ⟨#[]⟩] 256)) w.heap.size s 0 0 ⟨#[]⟩:=Vag _ _;have E:Hid _:=Jew _ w.heap.size s ⟨#[]⟩ 0 0 h I (by simp;show 0<=_;omega) d y k' D;clear h D
 go_enter func96,ntmps96
 go_wp2_with fail
 refine Vac E.out ?_
 rintro e L ⟨rfl,hK,M⟩
 have J:Kept w L:=⟨hK.os,hK.output,by have:=hK.size;simp at this;omega,fun q G=>by
  rw[hK.block q (by simp;omega) (by show¬q=_;omega)];exact VaA _ _ _ G⟩
 clear hK E
 go_wp2
 go_ret
 exact⟨rfl,J,M⟩
theorem JgG(s:BA)(w:World)(I:s.size<=300)(d:pTok s (run blI s 0)=none):
  Calls prog 96 #[.string s] w fun e w'=>ThrS w (run blI s 0) e w':=by
 have h:PRd (w.alloc (.cells #[.string s,.int .i64 ((0:Nat):Int),.int .i64 ((0:Nat):Int),.string ⟨#[]⟩] 256)) w.heap.size s 0 0 ⟨#[]⟩:=Vag _ _;have D:Hid _:=Jev _ w.heap.size s ⟨#[]⟩ 0 0 h I (by simp;show 0<=_;omega) d;clear h d
 go_enter func96,ntmps96
 go_wp2_with fail
 refine Vac D.out ?_
 rintro e M ⟨b,E,L,G,J⟩;rw[E];clear E D
 go_wp2
 refine⟨rfl,b,rfl,L,by simp at G;omega,?_⟩
 exact Kept.trans (Kept.below ((Vbh _ _).alloc (by simp) _)) (Kept.below J)
theorem JbO(s:BA)(kws:List BA)(J:∀w,w∈kws->w≠⟨#[110,97,109,101]⟩):∀n i,i<=s.size->∀k,k<(Jan s kws n i).length->
  (k=0->tkAt (Jan s kws n i) k=(tok1 s kws (run blI s i)).1)/\
  ((tkAt (Jan s kws n i) k).loc+(tkAt (Jan s kws n i) k).s.size<=s.size)/\
  (∃j,j<=s.size/\tkAt (Jan s kws n i) k=(tok1 s kws j).1)/\
  (k+1<(Jan s kws n i).length->tkAt (Jan s kws n i) (k+1)=(tok1 s kws (run blI s ((tkAt (Jan s kws n i) k).loc+(tkAt (Jan s kws n i) k).s.size))).1)
 |0,i,hi,k,d=>by simp[Jan]at d
 |n+1,i,hi,k,d=>by
  have G:=Jbi blI s i hi;have W:=Jfv s (run blI s i) G;have T:(s.extract (run blI s i) (clsK s (run blI s i))).size=clsK s (run blI s i)-run blI s i:=by simp[Va2];omega
  have U:(tok1 s kws (run blI s i)).1.loc=run blI s i:=rfl;have V:(tok1 s kws (run blI s i)).1.s=s.extract (run blI s i) (clsK s (run blI s i)):=rfl
  have E:(tok1 s kws (run blI s i)).1.loc+(tok1 s kws (run blI s i)).1.s.size=(tok1 s kws (run blI s i)).2:=by
   rw[U,V,T];show _=clsK s (run blI s i);omega
  have D:(tok1 s kws (run blI s i)).2<=s.size:=W.2
  cases I:Jc3 (tok1 s kws (run blI s i)).1
  .have e:Jan s kws (n+1) i=(tok1 s kws (run blI s i)).1::Jan s kws n (tok1 s kws (run blI s i)).2:=by rw[Jan,I];rfl
   rw[e]at d⊢
   cases k with
   |zero=>
    rw[JbN];refine⟨fun _=>rfl,by rw[E];exact D,⟨_,G,rfl⟩,?_⟩
    intro h;rw[Jbd,E];have:=(JbO s kws J n _ D 0 (by simpa using h)).1 rfl;exact this
   |succ k=>
    rw[Jbd,Jbd];obtain⟨_,L,O,M⟩:=JbO s kws J n _ D k (by simpa using d);exact⟨fun q=>by omega,L,O,fun h=>M (by simpa using h)⟩
  .have e:Jan s kws (n+1) i= [(tok1 s kws (run blI s i)).1]:=by rw[Jan,I];rfl
   rw[e]at d⊢;have:k=0:=by simpa using d
   subst this;rw[JbN];exact⟨fun _=>rfl,by rw[E];exact D,⟨_,G,rfl⟩,fun h=>by simp at h⟩
structure KwOk(kws:List BA):Prop where
 ne:∀w,w∈kws->w≠⟨#[110,97,109,101]⟩/\w≠⟨#[110,111,110,101]⟩/\w≠⟨#[101,110,100]⟩/\w≠⟨#[110,117,109]⟩
 low:∀w,w∈kws->lowI (chr w 0)=true
theorem JbB{kws:List BA}(h:kwIn kws x=true):x∈kws:=by
 unfold kwIn at h;rw[Vci]at h;obtain⟨w,d,e⟩:=h;rw[(Jaf x w).1 e];exact d
theorem Jac{a b:BA}(h:a.data.toList≠b.data.toList):a≠b:=fun e=>h (by rw[e])
section
variable {s:BA}{kws:List BA}(hK:KwOk kws){L:List Tk}(hL:L=Jan s kws (s.size+1) 0)
include hK hL
theorem Jbw(k:Nat)(h:k<L.length):(tkAt L k).loc+(tkAt L k).s.size<=s.size/\Link s kws (tkAt L k).loc (tkAt L k) ((tkAt L k).loc+(tkAt L k).s.size):=by
 have d:∀w,w∈kws->w≠⟨#[110,97,109,101]⟩:=fun w G=>(hK.ne w G).1
 subst hL;obtain⟨_,E,⟨j,D,e⟩,_⟩:=JbO s kws d (s.size+1) 0 (VaN _) k h;have l:=JfW s kws d j D;have J:=Jfv s j D
 have I:(tok1 s kws j).2=(tok1 s kws j).1.loc+(tok1 s kws j).1.s.size:=by
  show clsK s j=j+(s.extract j (clsK s j)).size;simp[Va2];omega
 refine⟨E,?_⟩
 rw[e];rw[I]at l;exact l
theorem JiC(k:Nat)(h:k<L.length)(D:(tkAt L k).is≠⟨#[110,111,110,101]⟩):∃kd,pTok s (tkAt L k).loc=some (kd,(tkAt L k).s,(tkAt L k).loc+(tkAt L k).s.size):=by
 have l:=(Jbw hK hL k h).2
 cases l with
 |fin a b c d e=>
  refine⟨0,?_⟩
  rw[<-e,c];exact d
 |bad a b=>exact absurd a D
 |word a b c d=>exact⟨1,c⟩
 |num a b c d e=>exact⟨2,d⟩
 |sign a b c d e f=>exact⟨3,d⟩
theorem JfV(k:Nat)(h:k<L.length)(D:(tkAt L k).is=⟨#[110,111,110,101]⟩):pTok s (tkAt L k).loc=none:=by
 have l:=(Jbw hK hL k h).2
 cases l with
 |fin a b c d e=>rw[D]at b;exact absurd b (Jac (by decide))
 |bad a b=>exact b
 |word a b c d=>
  exfalso;rw[D]at d
  split at d
  .rename_i q;exact(hK.ne _ (JbB q)).2.1 d.symm
  .exact absurd d (Jac (by decide))
 |num a b c d e=>rw[D]at e;exact absurd e (Jac (by decide))
 |sign a b c d e f=>
  exfalso;rw[D]at e
  rcases f with f|⟨E,f,_⟩
  .rw[f]at e;exact absurd e (Jac (by decide))
  .rw[f]at e;have e:=VbH (fun x=>x.size) e;have e:(4:Nat)=1:=e;omega
end
def Jgr(q:BA):Prop:=q=⟨#[45,62]⟩\/∃c:UInt8,q=⟨#[c]⟩/\JaW (c.toNat:Int)=true
theorem JbP(s:BA)(i k:Nat)(h:i<k)(D:k<=s.size):chr (s.extract i k) 0=chr s i:=by
 have d:0<(s.extract i k).size:=by simp[Va2];omega
 unfold chr;rw[Vdp d,Vdp (by omega)];simp[Vd4]
theorem Jgs(h:Jgr q):lowI (chr q 0)=false/\figI (chr q 0)=false:=by
 rcases h with rfl|⟨c,rfl,d⟩
 .decide
 .have e:chr (⟨#[c]⟩:BA) 0=(c.toNat:Int):=rfl;rw[e];simp only[JaW,VcQ,Vbs]at d;simp only[lowI,figI]
  constructor
  .simp;omega
  .simp;omega
theorem Jkb{s:BA}{kws:List BA}(hK:KwOk kws){t:Tk}{k:Nat}(l:Link s kws i t k)(T:t.is≠⟨#[110,111,110,101]⟩)(W:k<=s.size)(q:BA)(D:q∈kws\/Jgr q):(t.s.data.toList==q.data.toList)=(t.is.data.toList==q.data.toList):=by
 have L:q≠⟨#[110,97,109,101]⟩/\q≠⟨#[101,110,100]⟩/\q≠⟨#[110,117,109]⟩/\q≠⟨#[]⟩:=by
  rcases D with D|D
  .have:=hK.ne q D;refine⟨this.1,this.2.2.1,this.2.2.2,fun e=> ?_⟩
   have O:=hK.low q D;rw[e]at O;exact absurd O (by decide)
  .rcases D with rfl|⟨c,rfl,_⟩
   .exact⟨Jac (by decide),Jac (by decide),Jac (by decide),Jac (by decide)⟩
   .have J:∀w:BA,w.size≠1->(⟨#[c]⟩:BA)≠w:=fun w I e=>I (by rw[<-e];rfl)
    exact⟨J _ (by decide),J _ (by decide),J _ (by decide),J _ (by decide)⟩
 have G:∀a b:BA,a≠b->(a.data.toList==b.data.toList)=false:=fun a b h=>by
  rw[Vbm];intro e;exact h ((Jaf a b).1 e)
 cases l with
 |fin a b c d e=>rw[b,c,G _ _ (Vdg L.2.2.2),G _ _ (Vdg L.2.1)]
 |bad a b=>exact absurd a T
 |word a b c d=>
  by_cases I:kwIn kws t.s=true
  .rw[Vat I]at d;rw[d]
  .rw[Vaq I]at d;rw[d,G _ _ (Vdg L.1)];refine G _ _ (fun e=> ?_)
   rcases D with D|D
   .refine I ?_
    unfold kwIn;rw[Vci];exact⟨q,D,(Jaf _ _).2 e⟩
   .have E:=(Jgs D).1;rw[<-e]at E;unfold pTok at c;rw[Vat a,Vat b]at c
    split at c
    .simp only[Vaa,Vaf]at c;obtain⟨_,c2,V⟩:=c;rw[<-c2,JbP s i _ (Jdq lfI s i a (by simp[lfI,b])) (Jbi lfI s i (by omega)),b]at E
     cases E
    .cases c
 |num a b c d e=>
  rw[e,G _ _ (Vdg L.2.2.1)];refine G _ _ (fun U=> ?_)
  unfold pTok at d;rw[Vat a,Vaq (by simp[b]),Vat c]at d
  split at d
  .simp only[Vaa,Vaf]at d;obtain⟨_,c2,V⟩:=d;have M:chr t.s 0=chr s i:=by rw[<-c2];exact JbP s i _ (Jdq figI s i a c) (Jbi figI s i (by omega))
   rw[U]at M
   rcases D with D|D
   .have E:=hK.low q D;rw[M,b]at E
    cases E
   .have E:=(Jgs D).2;rw[M,c]at E
    cases E
  .cases d
 |sign a b c d e f=>rw[e]
structure PAt(w:World)(rb:Nat)(s:BA)(L:List Tk)(k:Nat):Prop where
 ex:∃kd,PRd w rb s kd (tkAt L k).loc (tkAt L k).s/\pTok s (tkAt L k).loc=some (kd,(tkAt L k).s,(tkAt L k).loc+(tkAt L k).s.size)
 lt:k<L.length
 nn:(tkAt L k).is≠⟨#[110,111,110,101]⟩
structure PEnv(s:BA)(kws:List BA)(L:List Tk):Prop where
 sz:s.size<=300
 kw:KwOk kws
 eq:L=Jan s kws (s.size+1) 0
theorem PEnv.good{s:BA}{kws:List BA}{L:List Tk}(h:PEnv s kws L):Good L:=by rw[h.eq];exact JgY s kws
section
variable {s:BA}{kws:List BA}{L:List Tk}(hE:PEnv s kws L){w:World}{rb k:Nat}
include hE
theorem Jbz(h:PAt w rb s L k)(q:BA)(E:q∈kws\/Jgr q):Calls prog 129 #[.pointer (some ⟨rb,0,none⟩),.string q] w fun e w'=>e= .returned (.bool (isM L q k (-1)))/\w'=w:=by
 obtain⟨kd,d,_⟩:=h.ex;have l:=Jbw hE.kw hE.eq k h.lt;have e:=Jkb hE.kw l.2 h.nn l.1 q E;have:=JfJ w rb s (tkAt L k).s q kd _ d
 have D:isM L q k (-1)=((tkAt L k).s.toList==q.toList):=by
  simp only[isM];rw[<-e,VaL,VaL];rfl
 rw[D];exact this
theorem Jfs(h:PAt w rb s L k)(d:k+1<L.length):run blI s ((tkAt L k).loc+(tkAt L k).s.size)=(tkAt L (k+1)).loc:=by
 have D:∀w,w∈kws->w≠⟨#[110,97,109,101]⟩:=fun w E=>(hE.kw.ne w E).1
 have hL:=hE.eq;subst hL;obtain⟨_,_,_,G⟩:=JbO s kws D (s.size+1) 0 (VaN _) k h.lt;rw[G d];rfl
theorem Je2(h:PAt w rb s L k)(d:k+1<L.length)(E:(tkAt L (k+1)).is≠⟨#[110,111,110,101]⟩):Calls prog 128 #[.pointer (some ⟨rb,0,none⟩)] w fun e w'=>e= .returned (.tuple #[])/\Kp (·=rb) w w'/\PAt w' rb s L (k+1):=by
 obtain⟨kd,J,_⟩:=h.ex;have l:=Jbw hE.kw hE.eq k h.lt;obtain⟨D,ht⟩:=JiC hE.kw hE.eq (k+1) d E;have G:=Jfs hE h d;have:=Jew w rb s (tkAt L k).s kd _ J hE.sz l.1 D (tkAt L (k+1)).s _ (by rw[G];exact ht);rw[G]at this;refine this.mono ?_
 rintro e w' ⟨rfl,hK,I⟩;exact⟨rfl,hK,⟨D,I,ht⟩,d,E⟩
theorem JdA(h:PAt w rb s L k)(d:k+1<L.length)(G:(tkAt L (k+1)).is=⟨#[110,111,110,101]⟩):Calls prog 128 #[.pointer (some ⟨rb,0,none⟩)] w fun e w'=>ThrS w (tkAt L (k+1)).loc e w':=by
 obtain⟨kd,O,_⟩:=h.ex;have l:=Jbw hE.kw hE.eq k h.lt;have ht:=JfV hE.kw hE.eq (k+1) d G;have D:=Jfs hE h d;have:=Jev w rb s (tkAt L k).s kd _ O hE.sz l.1 (by rw[D];exact ht);rw[D]at this;refine this.mono ?_
 rintro e w' ⟨b,M,I,E,J⟩;exact⟨b,M,I,E,Kept.below J⟩
theorem JbI(h:PAt w rb s L k)(q:BA)(d:q∈kws\/Jgr q):((tkAt L k).s.toList==q.toList)=isM L q k (-1):=by
 have l:=Jbw hE.kw hE.eq k h.lt;have e:=Jkb hE.kw l.2 h.nn l.1 q d;simp only[isM];rw[<-e,VaL,VaL];rfl
theorem Jf5(h:PAt w rb s L k)(q:BA)(I:q∈kws\/Jgr q)(d:k+1<L.length)(J:isM L q k (-1)=true)(E:(tkAt L (k+1)).is≠⟨#[110,111,110,101]⟩):Calls prog 173 #[.pointer (some ⟨rb,0,none⟩),.string q] w fun e w'=>e= .returned (.tuple #[])/\Kp (·=rb) w w'/\PAt w' rb s L (k+1):=by
 obtain⟨kd,O,_⟩:=h.ex;have l:=Jbw hE.kw hE.eq k h.lt;obtain⟨D,ht⟩:=JiC hE.kw hE.eq (k+1) d E;have G:=Jfs hE h d;have:=JgD w rb s (tkAt L k).s q kd _ O (by rw[JbI hE h q I];exact J) hE.sz l.1 D (tkAt L (k+1)).s _ (by rw[G];exact ht);rw[G]at this;refine this.mono ?_
 rintro e w' ⟨rfl,hK,M⟩;exact⟨rfl,hK,⟨D,M,ht⟩,d,E⟩
theorem Jeb(h:PAt w rb s L k)(q:BA)(E:q∈kws\/Jgr q)(d:k+1<L.length)(I:isM L q k (-1)=true)(G:(tkAt L (k+1)).is=⟨#[110,111,110,101]⟩):Calls prog 173 #[.pointer (some ⟨rb,0,none⟩),.string q] w fun e w'=>ThrS w (tkAt L (k+1)).loc e w':=by
 obtain⟨kd,J,_⟩:=h.ex;have l:=Jbw hE.kw hE.eq k h.lt;have ht:=JfV hE.kw hE.eq (k+1) d G;have D:=Jfs hE h d;have:=JgC w rb s (tkAt L k).s q kd _ J (by rw[JbI hE h q E];exact I) hE.sz l.1 (by rw[D];exact ht);rw[D]at this;exact this
theorem Jg8(h:PAt w rb s L k)(q:BA)(E:q∈kws\/Jgr q)(d:isM L q k (-1)=false):Calls prog 173 #[.pointer (some ⟨rb,0,none⟩),.string q] w fun e w'=>ThrS w (tkAt L k).loc e w':=by
 obtain⟨kd,D,_⟩:=h.ex;exact Jhv w rb s (tkAt L k).s q kd _ D (by rw[JbI hE h q E];exact d)
end
theorem Ja3{L:List Tk}{k:Nat}(d:(tkAt L k).is=⟨#[110,111,110,101]⟩)(h:q.data.toList≠(⟨#[110,111,110,101]⟩:BA).data.toList):isM L q k bad=false:=by
 simp only[isM,d]
 have:((⟨#[110,111,110,101]⟩:BA).data.toList==q.data.toList)=false:=by
  rw[Vbm];intro e;exact h (Vbs.1 e).symm
 rw[this];simp
theorem Jb7(l:List Tk):∀n,(∀names k bad t names' k' bad',Jaq l n names k bad=some (t,names',k',bad')->(0<=bad->bad'=bad)/\(bad'<0->bad'=bad))/\
  (∀names k bad t names' k' bad',oneM l n names k bad=some (t,names',k',bad')->(0<=bad->bad'=bad)/\(bad'<0->bad'=bad)):=by
 have M:∀s k bad,(0<=bad->Jab l s k bad=bad)/\(Jab l s k bad<0->Jab l s k bad=bad):=fun s k bad=>by
  refine⟨fun h=>Ja5 h,?_⟩
  unfold Jab
  split
  .intro h;omega
  .intro _;rfl
 intro n
 induction n with
 |zero=>exact⟨fun _ _ _ _ _ _ _ h=>by simp[Jaq]at h,fun _ _ _ _ _ _ _ h=>by simp[oneM]at h⟩
 |succ n J=>
  refine⟨?_,?_⟩
  .intro names k bad t names' k' bad' h;simp only[Jaq]at h;obtain⟨⟨x,n1,k1,L⟩,I,d⟩:=Vab.1 h;have E:=J.2 _ _ _ _ _ _ _ I;simp only at d
   split at d
   .obtain⟨⟨y,W,V,U⟩,O,G⟩:=Vab.1 d;have D:=J.1 _ _ _ _ _ _ _ O;simp only[Vaa,Vaf]at G;obtain⟨_,_,_,rfl⟩:=G;exact⟨fun q=>by have:=E.1 q;have:=D.1 (by omega);omega,fun q=>by have:=D.2 q;have:=E.2 (by omega);omega⟩
   .simp only[Vaa,Vaf]at d;obtain⟨_,_,_,rfl⟩:=d;exact E
  .intro names k bad t names' k' bad' h;simp only[oneM]at h
   split at h
   .simp only[Vaa,Vaf]at h;obtain⟨_,_,_,rfl⟩:=h;exact⟨fun _=>rfl,fun _=>rfl⟩
   .split at h
    .simp only[Vaa,Vaf]at h;obtain⟨_,_,_,rfl⟩:=h;exact⟨fun _=>rfl,fun _=>rfl⟩
    .split at h
     .obtain⟨⟨x,n1,k1,L⟩,I,d⟩:=Vab.1 h;have E:=J.1 _ _ _ _ _ _ _ I;simp only[Vaa,Vaf]at d;obtain⟨_,_,_,rfl⟩:=d;have D:=M ⟨#[93]⟩ k1 L;exact⟨fun q=>by have:=E.1 q;have:=D.1 (by omega);omega,fun q=>by have:=D.2 q;have:=E.2 (by omega);omega⟩
     .split at h
      .obtain⟨⟨x,n1,k1,L⟩,I,d⟩:=Vab.1 h;have E:=J.1 _ _ _ _ _ _ _ I;simp only at d
       split at d
       .obtain⟨⟨y,W,V,U⟩,O,G⟩:=Vab.1 d;have T:=J.1 _ _ _ _ _ _ _ O;simp only[Vaa,Vaf]at G;obtain⟨_,_,_,rfl⟩:=G;have D:=M ⟨#[41]⟩ V U;exact⟨fun q=>by have:=E.1 q;have:=T.1 (by omega);have:=D.1 (by omega);omega,fun q=>by have:=D.2 q;have:=T.2 (by omega);have:=E.2 (by omega);omega⟩
       .simp only[Vaa,Vaf]at d;obtain⟨_,_,_,rfl⟩:=d;have D:=M ⟨#[41]⟩ k1 L;exact⟨fun q=>by have:=E.1 q;have:=D.1 (by omega);omega,fun q=>by have:=D.2 q;have:=E.2 (by omega);omega⟩
      .simp only[Vaa,Vaf]at h;obtain⟨_,_,_,rfl⟩:=h;exact M ⟨#[110,97,109,101]⟩ k bad
theorem Jb8(l:List Tk)(n:Nat)(names:List BA)(k:Nat)(bad:Int)(I:bad<0)(d:(tkAt l k).is=⟨#[110,111,110,101]⟩):
  (∀t names' k' bad',oneM l n names k bad=some (t,names',k',bad')->bad'=(tkAt l k).loc)/\(∀t names' k' bad',Jaq l n names k bad=some (t,names',k',bad')->bad'=(tkAt l k).loc):=by
 have one:∀n t names' k' bad',oneM l n names k bad=some (t,names',k',bad')->bad'=(tkAt l k).loc:=by
  intro n t names' k' bad' h
  cases n with
  |zero=>simp[oneM]at h
  |succ n=>
   simp only[oneM,Ja3 d (show(⟨#[105,110,116]⟩:BA).data.toList≠(⟨#[110,111,110,101]⟩:BA).data.toList by decide),Ja3 d (show(⟨#[98,111,111,108]⟩:BA).data.toList≠(⟨#[110,111,110,101]⟩:BA).data.toList by decide),Ja3 d (show(⟨#[91]⟩:BA).data.toList≠(⟨#[110,111,110,101]⟩:BA).data.toList by decide),Ja3 d (show(⟨#[40]⟩:BA).data.toList≠(⟨#[110,111,110,101]⟩:BA).data.toList by decide),Vao,VaS,Vaa,Vaf]at h;obtain⟨_,_,_,rfl⟩:=h;unfold Jab;rw[Ja3 d (by decide),Vat (by simp;omega)]
 refine⟨one n,?_⟩
 intro t names' k' bad' h
 cases n with
 |zero=>simp[Jaq]at h
 |succ n=>
  simp only[Jaq]at h;obtain⟨⟨x,n1,k1,G⟩,E,D⟩:=Vab.1 h;have e:=one n _ _ _ _ E;simp only at D;rw[JfB (by omega)]at D;simp only[Vao,VaS,Vaa,Vaf]at D;obtain⟨_,_,_,rfl⟩:=D;exact e
structure Kq(S:Nat->Prop)(w w':World):Prop where
 os:w'.os=w.os
 output:w'.output=w.output
 size:w.heap.size<=w'.heap.size
 block:∀k,k<w.heap.size->¬S k->w'.heap[k]? =w.heap[k]?
theorem Kq.trans{c:World}(h:Kq S a b)(k:Kq S b c):Kq S a c:=⟨k.os.trans h.os,k.output.trans h.output,Vas h.size k.size,fun q D d=>(k.block q (Va6 D h.size) d).trans (h.block q D d)⟩
variable {T:Nat->Prop}
theorem Kq.of_kp(h:Kp T a b)(d:∀q,T q->S q):Kq S a b:=⟨h.os,h.output,h.size,fun q E D=>h.block q E (fun x=>D (d q x))⟩
theorem Kq.of_kept(h:Kept a b):Kq S a b:=⟨h.os,h.output,h.size,fun q d _=>h.block q d⟩
theorem PAt.kept{w w':World}{rb:Nat}{s:BA}{L:List Tk}{k:Nat}(h:PAt w rb s L k)(E:Kept w w'):PAt w' rb s L k:=by
 obtain⟨kd,D,d⟩:=h.ex;exact⟨⟨kd,E.blk D,d⟩,h.lt,h.nn⟩
theorem Kept.alloc(w:World)(o:Obj):Kept w (w.alloc o):=Kept.below ((Vbh _ _).alloc (by simp) _)
def vEnt(names:List BA)(vb:List Nat)(j:Nat):MapEntry:={key:= .string (names.getD j ⟨#[]⟩),val:= .pointer (some ⟨vb.getD j 0,0,none⟩),born:=j}
def vEs(names:List BA)(vb:List Nat):Array MapEntry:=((Veu names.length).map (vEnt names vb)).toArray
structure VM(w:World)(mb:Nat)(names:List BA)(vb:List Nat):Prop where
 len:vb.length=names.length
 mp:w.heap[mb]? =some (.map (vEs names vb) names.length)
 vr:∀j,j<names.length->w.heap[vb.getD j 0]? =some (.cells #[.nilIface,.string (names.getD j ⟨#[]⟩),.bool false] 221 (0,0))
theorem Jnz(names:List BA)(vb:List Nat)(h:vb.length=names.length)(nm:BA)(b:Nat):(vEs names vb).push {key:= .string nm,val:= .pointer (some ⟨b,0,none⟩),born:=names.length}=vEs (names++ [nm]) (vb++ [b]):=by
 unfold vEs;rw[Vap,VaG,Vdi,Vbu]
 have D:(Veu names.length).map (vEnt names vb)=(Veu names.length).map (vEnt (names++ [nm]) (vb++ [b])):=by
  apply VcP
  intro j d;have d:j<names.length:=VcC.1 d;simp[vEnt,Vev,Vak d,Vak (h▸d:j<vb.length)]
 have E:vEnt (names++ [nm]) (vb++ [b]) names.length={key:= .string nm,val:= .pointer (some ⟨b,0,none⟩),born:=names.length}:=by
  have:names.length=vb.length:=h.symm;simp[vEnt,Vev];rw[this];simp
 rw[D];simp[E]
theorem Jqj(names:List BA)(vb:List Nat)(j:Nat):(vEs names vb).toList[j]? =if j<names.length then some (vEnt names vb j)else none:=by
 simp only[vEs]
 by_cases h:j<names.length
 .simp[h]
 .simp[h]
theorem Jgk(names:List BA)(vb:List Nat)(nm:BA)(L:names.Nodup):Vew .string (.string nm) (vEs names vb).toList 0=some ((names.findIdx? (fun x=>Jag x nm)).map fun j=>(j,.pointer (some ⟨vb.getD j 0,0,none⟩))):=by
 have J:Vez .string (.string nm):=by simp[Vez]
 have M:∀x,x∈(vEs names vb).toList->Vez .string x.key:=fun x E=>by
  simp only[vEs,Vbj]at E;obtain⟨j,_,rfl⟩:=E;simp[vEnt,Vez]
 have gd:∀j (h:j<names.length),names.getD j ⟨#[]⟩=names[j]:=fun j h=>by simp[Vev,h]
 rcases Veq J (vEs names vb).toList 0 M with⟨I,D⟩|⟨j,e,I,D,G⟩
 .have:names.findIdx? (fun x=>Jag x nm)=none:=by
   rw[Vbv];intro x E;obtain⟨j,d,rfl⟩:=Vbk E;rw[Vbm];intro q;have q:=(Jaf _ _).1 q
   have O:vEnt names vb j∈(vEs names vb).toList:=by
    simp only[vEs,Vbj];exact⟨j,by simpa using d,rfl⟩
   refine D _ O ?_
   simp only[vEnt];rw[gd j d,q]
  rw[I,this];rfl
 .rw[Jqj]at D
  by_cases d:j<names.length
  .rw[Vat d]at D;obtain rfl:=VbN D
   have q:names[j]=nm:=by
    simp only[vEnt]at G;rw[gd j d]at G
    injection G
   have:names.findIdx? (fun x=>Jag x nm)=some j:=by
    rw[VaZ];refine⟨d,(Jaf _ _).2 q,?_⟩
    intro i hi z;have z:=(Jaf _ _).1 z;exact(VaF.1 L) i j (by omega) d hi (by rw[z,q])
   rw[I,this];simp[vEnt]
  .rw[Vaq d]at D
   cases D
theorem Jiv(w:World)(mb:Nat)(names:List BA)(vb:List Nat)(nm:BA)(h:VM w mb names vb)(D:names.Nodup):
  (Instr.lookup 208 (.map (some mb)) (.string nm) true).run prog w= .ok (match names.findIdx? (fun x=>Jag x nm)with|some j=> .tuple #[.pointer (some ⟨vb.getD j 0,0,none⟩),.bool true]|none=> .tuple #[.pointer none,.bool false]) w:=by
 have G:=Jgk names vb nm D;have E:∀e,(Vex e 10000 9 (.string nm)).run prog w= .ok () w:=fun e=>Vbz VaR (by simp[Vez]) e 9999
 have d:(zeroValue 216).run prog w= .ok (.pointer none) w:=by kernel_rfl
 simp only[Instr.lookup,Va8,VaM underlying208,VaQ h.mp,Result.andThen,VbW,E,VbC VaR G]
 cases names.findIdx? (fun x=>Jag x nm)with
 |none=>simp[d,Result.andThen]
 |some j=>simp
theorem VM.kept{w w':World}{mb:Nat}{names:List BA}{vb:List Nat}(h:VM w mb names vb)(d:Kept w w'):VM w' mb names vb:=⟨h.len,d.blk h.mp,fun j D=>d.blk (h.vr j D)⟩
theorem JmR(w:World)(mb rb:Nat)(names:List BA)(vb:List Nat)(nm:BA)(h:VM w mb names vb)(E:names.Nodup)(j:Nat)(D:names.findIdx? (fun x=>Jag x nm)=some j):
  Calls prog 179 #[.agg #[.pointer (some ⟨rb,0,none⟩),.map (some mb)],.string nm] w fun e w'=>e= .returned (.pointer (some ⟨vb.getD j 0,0,none⟩))/\Kept w w':=by
 have hK:Kept w (w.alloc (.cells #[.pointer (some ⟨rb,0,none⟩),.map (some mb)] 210)):=Kept.below ((Vbh _ _).alloc (by simp) _);have d:=Jiv (w.alloc (.cells #[.pointer (some ⟨rb,0,none⟩),.map (some mb)] 210)) mb names vb nm (h.kept hK) E;rw[D]at d;simp only at d;clear h D
 go_enter func179,ntmps179
 go_wp2
 go_ret
 exact⟨rfl,hK⟩
theorem Jm4(w:World)(mb:Nat)(names:List BA)(vb:List Nat)(nm:BA)(b:Nat)(h:VM w mb names vb)(E:names.Nodup)(D:names.findIdx? (fun x=>Jag x nm)=none):
  (Vey 208 (.map (some mb)) (.string nm) (.pointer (some ⟨b,0,none⟩))).run prog w= .ok () {w with heap:=w.heap.setIfInBounds mb (.map (vEs (names++ [nm]) (vb++ [b])) (names.length+1))}:=by
 have d:=Jgk names vb nm E;rw[D]at d;have d:Vew .string (.string nm) (vEs names vb).toList 0=some none:=d;have G:(Vex false 10000 9 (.string nm)).run prog w= .ok () w:=Vbz VaR (by simp[Vez]) false 9999;rw[<-Jnz names vb h.len];simp[Vey,VaM underlying208,VaQ h.mp,G,VbC VaR d,VbB _ h.mp,Result.andThen]
def Idd(w:World)(mb:Nat)(o:Obj):World:={w with heap:=w.heap.setIfInBounds mb o}
theorem Jau(w:World)(mb:Nat)(o:Obj)(k:Nat)(d:k≠mb):(Idd w mb o).heap[k]? =w.heap[k]? :=by
 simp only[Idd];rw[Array.getElem?_setIfInBounds_ne (fun e=>d e.symm)]
theorem JaV(w:World)(mb:Nat)(o:Obj)(d:mb<w.heap.size):(Idd w mb o).heap[mb]? =some o:=by
 simp only[Idd];rw[VdN];simp[d]
theorem Jet(w:World)(mb:Nat)(o:Obj):Kp (·=mb) w (Idd w mb o):=⟨rfl,rfl,rfl,by simp[Idd],fun k _ d=>Jau w mb o k d⟩
theorem JmQ(w:World)(mb rb:Nat)(names:List BA)(vb:List Nat)(nm:BA)(h:VM w mb names vb)(L:names.Nodup)(E:names.findIdx? (fun x=>Jag x nm)=none):
  Calls prog 179 #[.agg #[.pointer (some ⟨rb,0,none⟩),.map (some mb)],.string nm] w fun e w'=>∃b,e= .returned (.pointer (some ⟨b,0,none⟩))/\VM w' mb (names++ [nm]) (vb++ [b])/\Kp (·=mb) w w'/\w.heap.size<=b:=by
 have hK:Kept w (w.alloc (.cells #[.pointer (some ⟨rb,0,none⟩),.map (some mb)] 210)):=Kept.below ((Vbh _ _).alloc (by simp) _);have G:=h.kept hK;have J:=Jiv (w.alloc (.cells #[.pointer (some ⟨rb,0,none⟩),.map (some mb)] 210)) mb names vb nm G L;rw[E]at J;simp only at J;have U:Kept (w.alloc (.cells #[.pointer (some ⟨rb,0,none⟩),.map (some mb)] 210)) ((w.alloc (.cells #[.pointer (some ⟨rb,0,none⟩),.map (some mb)] 210)).alloc (.cells #[.nilIface,.string nm,.bool false] 221)):=Kept.below ((Vbh _ _).alloc (by simp) _);have d:=G.kept U;have M:=Jm4 ((w.alloc (.cells #[.pointer (some ⟨rb,0,none⟩),.map (some mb)] 210)).alloc (.cells #[.nilIface,.string nm,.bool false] 221)) mb names vb nm (w.heap.size+1) d L E
 have V:((w.alloc (.cells #[.pointer (some ⟨rb,0,none⟩),.map (some mb)] 210)).alloc (.cells #[.nilIface,.string nm,.bool false] 221)).heap[w.heap.size+1]? =some (.cells #[.nilIface,.string nm,.bool false] 221 (0,0)):=by
  have:=Vag (w.alloc (.cells #[.pointer (some ⟨rb,0,none⟩),.map (some mb)] 210)) (.cells #[.nilIface,.string nm,.bool false] 221);simpa using this
 have T:Kp (·=mb) w (Idd ((w.alloc (.cells #[.pointer (some ⟨rb,0,none⟩),.map (some mb)] 210)).alloc (.cells #[.nilIface,.string nm,.bool false] 221)) mb (.map (vEs (names++ [nm]) (vb++ [w.heap.size+1])) (names.length+1))):=(((Kp.refl _ w).alloc _).alloc _).trans (Jet _ _ _);have ac:mb<w.heap.size:=Vah h.mp
 have O:VM (Idd ((w.alloc (.cells #[.pointer (some ⟨rb,0,none⟩),.map (some mb)] 210)).alloc (.cells #[.nilIface,.string nm,.bool false] 221)) mb (.map (vEs (names++ [nm]) (vb++ [w.heap.size+1])) (names.length+1))) mb (names++ [nm]) (vb++ [w.heap.size+1]):=by
  refine⟨by simp[h.len],?_,?_⟩
  .rw[JaV _ _ _ (Vah d.mp)];simp
  .intro q W;simp at W
   by_cases e:q<names.length
   .have D:(vb++ [w.heap.size+1]).getD q 0=vb.getD q 0:=by simp[Vev,Vak (h.len▸e:q<vb.length)]
    have I:(names++ [nm]).getD q ⟨#[]⟩=names.getD q ⟨#[]⟩:=by simp[Vev,Vak e]
    rw[D,I,Jau _ _ _ _ (fun z=>by have a:=d.vr q e;rw[z,d.mp]at a;cases a)];exact d.vr q e
   .have Z:q=names.length:=by omega
    subst Z;have D:(vb++ [w.heap.size+1]).getD names.length 0=w.heap.size+1:=by rw[<-h.len];simp[Vev]
    have I:(names++ [nm]).getD names.length ⟨#[]⟩=nm:=by simp[Vev]
    rw[D,I,Jau _ _ _ _ (by omega)];exact V
 have HV:Hid _:=O;have Y:Hid _:=T;have aa:(Vey 208 (.map (some mb)) (.string nm) (.pointer (some ⟨w.heap.size+1,0,none⟩))).run prog ((w.alloc (.cells #[.pointer (some ⟨rb,0,none⟩),.map (some mb)] 210)).alloc (.cells #[.nilIface,.string nm,.bool false] 221))= .ok () (Idd ((w.alloc (.cells #[.pointer (some ⟨rb,0,none⟩),.map (some mb)] 210)).alloc (.cells #[.nilIface,.string nm,.bool false] 221)) mb (.map (vEs (names++ [nm]) (vb++ [w.heap.size+1])) (names.length+1))):=M;clear h G d E M O T hK U V
 go_enter func179,ntmps179
 go_wp2
 go_ret
 exact⟨_,rfl,HV.out,Y.out,by omega⟩
inductive PTy(w:World)(vb:List Nat):Ty->Value->Prop
 |var (n b:Nat):vb[n]? =some b->PTy w vb (.mk ⟨#[]⟩ n []) (.iface 216 (.pointer (some ⟨b,0,none⟩)))
 |base (kd:BA):kd=⟨#[105,110,116]⟩\/kd=⟨#[98,111,111,108]⟩->PTy w vb (.mk kd 0 []) (.iface 343 (.agg #[.string kd]))
 |list (a:Ty) (b:Nat) (p:Value):w.heap[b]? =some (.cells #[.nilIface,p] 225 (0,0))->PTy w vb a p->PTy w vb (.mk ⟨#[108,105,115,116]⟩ 0 [a]) (.iface 222 (.pointer (some ⟨b,0,none⟩)))
 |pair (a c:Ty) (b:Nat) (p q:Value):w.heap[b]? =some (.cells #[.nilIface,p,q] 229 (0,0))->PTy w vb a p->PTy w vb c q->PTy w vb (.mk ⟨#[112,97,105,114]⟩ 0 [a,c]) (.iface 226 (.pointer (some ⟨b,0,none⟩)))
 |fn (a c:Ty) (b:Nat) (p q:Value):w.heap[b]? =some (.cells #[.nilIface,p,q] 233 (0,0))->PTy w vb a p->PTy w vb c q->PTy w vb (.mk ⟨#[102,117,110]⟩ 0 [a,c]) (.iface 230 (.pointer (some ⟨b,0,none⟩)))
def PKeep(w w':World):Prop:=∀(k:Nat) (d:Array Value) (e:TypeId) (f:Nat×Nat),e=225\/e=229\/e=233->w.heap[k]? =some (.cells d e f)->w'.heap[k]? =some (.cells d e f)
theorem PKeep.trans{c:World}(h:PKeep a b)(k:PKeep b c):PKeep a c:=fun q d e f D E=>k q d e f D (h q d e f D E)
theorem PKeep.kept{w w':World}(h:Kept w w'):PKeep w w':=fun _ _ _ _ _ d=>h.blk d
theorem PKeep.kp{w w':World}(h:Kp S w w')(E:∀k,S k->∀d e f,w.heap[k]? =some (.cells d e f)->e≠225/\e≠229/\e≠233):PKeep w w':=fun k d e f G D=>
 h.blk D (fun s=>by have:=E k s d e f D;rcases G with rfl|rfl|rfl;exact this.1 rfl;exact this.2.1 rfl;exact this.2.2 rfl)
theorem PKeep.rd{w w':World}{rb:Nat}{s:BA}(h:PRd w rb s kd i x)(g:Kp (·=rb) w w'):PKeep w w':=PKeep.kp g (fun q D E e f d=>by
 have D:q=rb:=D;subst D;have h:w.heap[q]? =some (.cells #[.string s,.int .i64 kd,.int .i64 i,.string x] 256 (0,0)):=h;rw[h]at d;simp at d;obtain⟨_,rfl,_⟩:=d;decide)
theorem PKeep.vm{w w':World}{mb:Nat}{names:List BA}{vb:List Nat}(h:VM w mb names vb)(g:Kp (·=mb) w w'):PKeep w w':=PKeep.kp g (fun q d E e f D=>by
 have d:q=mb:=d;subst d;rw[h.mp]at D
 cases D)
variable {t:Ty}
theorem PTy.keep{w w':World}{vb:List Nat}(E:PKeep w w')(h:PTy w vb t v):PTy w' vb t v:=by
 induction h with
 |var n b d=>exact .var n b d
 |base kd h=>exact .base kd h
 |list a b p d _ D=>exact .list a b p (E b _ 225 (0,0) (.inl rfl) d) D
 |pair a c b p q d _ _ D G=>exact .pair a c b p q (E b _ 229 (0,0) (.inr (.inl rfl)) d) D G
 |fn a c b p q d _ _ D G=>exact .fn a c b p q (E b _ 233 (0,0) (.inr (.inr rfl)) d) D G
theorem PTy.iface{w:World}{vb:List Nat}(h:PTy w vb t v):∃T u,v= .iface T u:=by
 cases h<;>exact⟨_,_,rfl⟩
inductive PTyR(w:World)(vb:List Nat):Nat->Nat->Ty->Value->Prop
 |var (n b lo hi:Nat):lo<=hi->vb[n]? =some b->PTyR w vb lo hi (.mk ⟨#[]⟩ n []) (.iface 216 (.pointer (some ⟨b,0,none⟩)))
 |base (kd:BA) (lo hi:Nat):lo<=hi->kd=⟨#[105,110,116]⟩\/kd=⟨#[98,111,111,108]⟩->PTyR w vb lo hi (.mk kd 0 []) (.iface 343 (.agg #[.string kd]))
 |list (a:Ty) (b:Nat) (p:Value) (lo m hi:Nat):w.heap[b]? =some (.cells #[.nilIface,p] 225 (0,0))->PTyR w vb lo m a p->m<=b->b<hi->PTyR w vb lo hi (.mk ⟨#[108,105,115,116]⟩ 0 [a]) (.iface 222 (.pointer (some ⟨b,0,none⟩)))
 |pair (a c:Ty) (b:Nat) (p q:Value) (lo m k hi:Nat):w.heap[b]? =some (.cells #[.nilIface,p,q] 229 (0,0))->PTyR w vb lo m a p->PTyR w vb m k c q->k<=b->b<hi->PTyR w vb lo hi (.mk ⟨#[112,97,105,114]⟩ 0 [a,c]) (.iface 226 (.pointer (some ⟨b,0,none⟩)))
 |fn (a c:Ty) (b:Nat) (p q:Value) (lo m k hi:Nat):w.heap[b]? =some (.cells #[.nilIface,p,q] 233 (0,0))->PTyR w vb lo m a p->PTyR w vb m k c q->k<=b->b<hi->PTyR w vb lo hi (.mk ⟨#[102,117,110]⟩ 0 [a,c]) (.iface 230 (.pointer (some ⟨b,0,none⟩)))
theorem PTyR.ty{w:World}{vb:List Nat}(h:PTyR w vb lo hi t v):PTy w vb t v:=by
 induction h with
 |var n b lo hi _ d=>exact .var n b d
 |base kd lo hi _ h=>exact .base kd h
 |list a b p lo m hi d _ _ _ D=>exact .list a b p d D
 |pair a c b p q lo m k hi d _ _ _ _ D E=>exact .pair a c b p q d D E
 |fn a c b p q lo m k hi d _ _ _ _ D E=>exact .fn a c b p q d D E
theorem PTyR.keep{w w':World}{vb:List Nat}(I:PKeep w w')(h:PTyR w vb lo hi t v):PTyR w' vb lo hi t v:=by
 induction h with
 |var n b lo hi d D=>exact .var n b lo hi d D
 |base kd lo hi d h=>exact .base kd lo hi d h
 |list a b p lo m hi D _ d E G=>exact .list a b p lo m hi (I b _ 225 (0,0) (.inl rfl) D) G d E
 |pair a c b p q lo m k hi D _ _ d E G J=>exact .pair a c b p q lo m k hi (I b _ 229 (0,0) (.inr (.inl rfl)) D) G J d E
 |fn a c b p q lo m k hi D _ _ d E G J=>exact .fn a c b p q lo m k hi (I b _ 233 (0,0) (.inr (.inr rfl)) D) G J d E
theorem PTyR.up{w:World}{vb:List Nat}(u:List Nat)(h:PTyR w vb lo hi t v):PTyR w (vb++u) lo hi t v:=by
 induction h with
 |var n b lo hi d D=>exact .var n b lo hi d (by rw[Vak (Vae.1 D).1];exact D)
 |base kd lo hi d h=>exact .base kd lo hi d h
 |list a b p lo m hi D _ d E G=>exact .list a b p lo m hi D G d E
 |pair a c b p q lo m k hi D _ _ d E G I=>exact .pair a c b p q lo m k hi D G I d E
 |fn a c b p q lo m k hi D _ _ d E G I=>exact .fn a c b p q lo m k hi D G I d E
theorem PTyR.wide{w:World}{vb:List Nat}(h:PTyR w vb lo hi t v):∀{d D:Nat},d<=lo->hi<=D->PTyR w vb d D t v:=by
 induction h with
 |var n b lo hi E G=>intro d D I L;exact .var n b d D (by omega) G
 |base kd lo hi E h=>intro d D I L;exact .base kd d D (by omega) h
 |list a b p lo m hi G _ E O J=>intro d D I L;exact .list a b p d m D G (J I (Vau _)) E (by omega)
 |pair a c b p q lo m k hi G _ M E O J T=>intro d D I L;exact .pair a c b p q d m k D G (J I (Vau _)) M E (by omega)
 |fn a c b p q lo m k hi G _ M E O J T=>intro d D I L;exact .fn a c b p q d m k D G (J I (Vau _)) M E (by omega)
theorem PTyR.le{w:World}{vb:List Nat}(h:PTyR w vb lo hi t v):lo<=hi:=by
 induction h with
 |var n b lo hi d D=>exact d
 |base kd lo hi d h=>exact d
 |list a b p lo m hi D _ d E G=>omega
 |pair a c b p q lo m k hi D _ I d E G J=>omega
 |fn a c b p q lo m k hi D _ I d E G J=>omega
theorem PTyR.iface{w:World}{vb:List Nat}(h:PTyR w vb lo hi t v):∃T u,v= .iface T u:=h.ty.iface
structure PEnd(w w':World)(rb mb:Nat)(s:BA)(L:List Tk)(k':Nat)(names':List BA)(vb vb':List Nat):Prop where
 at':PAt w' rb s L k'
 vm:VM w' mb names' vb'
 pre:∃u,vb'=vb++u/\∀c,c∈u->w.heap.size<=c
 pk:PKeep w w'
 kp:Kq (fun q=>q=rb\/q=mb) w w'
variable {w0:World}{vb':List Nat}
theorem Jdo{w:World}{vb:List Nat}(h:∃u,vb'=vb++u/\∀c,c∈u->w.heap.size<=c)(E:w0.heap.size<=w.heap.size):∃u,vb'=vb++u/\∀c,c∈u->w0.heap.size<=c:=by
 obtain⟨u,d,D⟩:=h;exact⟨u,d,fun c G=>Vas E (D c G)⟩
variable {u:List Nat}{m n:Nat}
theorem JkP{a b c:List Nat}{v:List Nat}{k:Nat}(h:b=a++u)(E:∀x,x∈u->m<=x)(J:c=b++v)(D:∀x,x∈v->n<=x)(I:k<=m)(G:k<=n):∃u,c=a++u/\∀x,x∈u->k<=x:=by
 refine⟨u++v,by rw[J,h,Val],fun x d=> ?_⟩
 simp at d
 rcases d with d|d
 .exact Vas I (E x d)
 .exact Vas G (D x d)
def PRes(w:World)(rb mb:Nat)(s:BA)(L:List Tk)(t:Ty)(names':List BA)(k':Nat)(bad':Int)(vb:List Nat)(e:Ending)(w':World):Prop:=
 (bad'<0->(tkAt L k').is≠⟨#[110,111,110,101]⟩->∃v vb',e= .returned v/\PTyR w' vb' w.heap.size w'.heap.size t v/\PEnd w w' rb mb s L k' names' vb vb')/\
 (0<=bad'->∃loc:Nat,bad'=loc/\(∃b,e=thrown (.iface 134 (.pointer (some ⟨b,0,none⟩)))/\w'.heap[b]? =some (.cells #[.int .i64 loc] 145 (0,0))/\w.heap.size<=b/\Kq (fun q=>q=rb\/q=mb) w w'))/\
 (bad'<0->(tkAt L k').is=⟨#[110,111,110,101]⟩->∃b,e=thrown (.iface 134 (.pointer (some ⟨b,0,none⟩)))/\w'.heap[b]? =some (.cells #[.int .i64 (tkAt L k').loc] 145 (0,0))/\w.heap.size<=b/\Kq (fun q=>q=rb\/q=mb) w w')
def Jjm(s:BA)(L:List Tk)(n:Nat):Prop:=∀(w:World) (rb mb k:Nat) (names:List BA) (vb:List Nat) (t:Ty) (names':List BA) (k':Nat) (bad':Int),PAt w rb s L k->VM w mb names vb->NmOk L names->rb≠mb->Jaq L n names k (-1)=some (t,names',k',bad')->
 Calls prog 109 #[.agg #[.pointer (some ⟨rb,0,none⟩),.map (some mb)]] w fun e w'=>PRes w rb mb s L t names' k' bad' vb e w'
def Jqq(s:BA)(L:List Tk)(n:Nat):Prop:=∀(w:World) (rb mb k:Nat) (names:List BA) (vb:List Nat) (t:Ty) (names':List BA) (k':Nat) (bad':Int),PAt w rb s L k->VM w mb names vb->NmOk L names->rb≠mb->oneM L n names k (-1)=some (t,names',k',bad')->
 Calls prog 143 #[.agg #[.pointer (some ⟨rb,0,none⟩),.map (some mb)]] w fun e w'=>PRes w rb mb s L t names' k' bad' vb e w'
def Thr2(w:World)(rb mb:Nat)(loc:Nat)(e:Ending)(w':World):Prop:=∃b,e=thrown (.iface 134 (.pointer (some ⟨b,0,none⟩)))/\w'.heap[b]? =some (.cells #[.int .i64 loc] 145 (0,0))/\w.heap.size<=b/\Kq (fun q=>q=rb\/q=mb) w w'
theorem PRes.thr{w w':World}{rb mb:Nat}{s:BA}{L:List Tk}{vb:List Nat}{e:Ending}(h:Thr2 w rb mb loc e w')(D:bad'=loc\/(bad'<0/\(tkAt L k').is=⟨#[110,111,110,101]⟩/\(tkAt L k').loc=loc)):PRes w rb mb s L t names' k' bad' vb e w':=by
 rcases D with rfl|⟨E,d,rfl⟩
 .exact⟨fun q=>by omega,fun _=>⟨loc,rfl,h⟩,fun q=>by omega⟩
 .exact⟨fun _ q=>absurd d q,fun q=>by omega,fun _ _=>h⟩
theorem PRes.ret{w w':World}{rb mb:Nat}{s:BA}{L:List Tk}{vb:List Nat}(d:bad'<0)(ht:PTyR w' vb' w.heap.size w'.heap.size t v)(hE:PEnd w w' rb mb s L k' names' vb vb'):PRes w rb mb s L t names' k' bad' vb (.returned v) w':=
 ⟨fun _ _=>⟨v,vb',rfl,ht,hE⟩,fun q=>by omega,fun _ q=>absurd q hE.at'.nn⟩
theorem Thr2.before{w w':World}{rb mb:Nat}{e:Ending}(h:Thr2 w rb mb loc e w')(d:Kq (fun q=>q=rb\/q=mb) w0 w):Thr2 w0 rb mb loc e w':=by
 obtain⟨b,G,I,D,E⟩:=h;exact⟨b,G,I,Vas d.size D,d.trans E⟩
theorem Thr2.of{w w':World}{rb mb:Nat}{e:Ending}(h:ThrS w loc e w'):Thr2 w rb mb loc e w':=by
 obtain⟨b,E,G,d,D⟩:=h;exact⟨b,E,G,d,Kq.of_kept D⟩
theorem PRes.thrown{w w':World}{rb mb:Nat}{s:BA}{L:List Tk}{vb:List Nat}{e:Ending}(h:PRes w rb mb s L t names' k' bad' vb e w')(d:0<=bad'\/(tkAt L k').is=⟨#[110,111,110,101]⟩):∃loc:Nat,(bad'=loc\/(bad'<0/\(tkAt L k').is=⟨#[110,111,110,101]⟩/\(tkAt L k').loc=loc))/\Thr2 w rb mb loc e w':=by
 by_cases q:0<=bad'
 .obtain⟨loc,D,E⟩:=h.2.1 q;exact⟨loc,.inl D,E⟩
 .rcases d with d|d
  .exact absurd d q
  .exact⟨_,.inr ⟨by omega,d,rfl⟩,h.2.2 (by omega) d⟩
theorem JkX(s:BA)(kws:List BA)(L:List Tk)(hE:PEnv s kws L)(n:Nat)(hA:Jjm s L n)(hO:Jqq s L n):Jjm s L (n+1):=by
 intro w rb mb k names vb t names' k' bad' ak hv ax ao D;simp only[Jaq]at D;obtain⟨⟨x,n1,k1,Y⟩,h1,h2⟩:=Vab.1 D;have hG:=hE.good;obtain⟨aS,aP⟩:=(Jcj L hG n).2 _ _ _ _ _ _ _ h1 ak.lt ax;have an:=((Jb7 L n).2 _ _ _ _ _ _ _ h1).2;have E:Kept w (w.alloc (.cells #[.pointer (some ⟨rb,0,none⟩),.map (some mb)] 210)):=Kept.alloc _ _;have HO:Hid _:=hO _ rb mb k names vb x n1 k1 Y (ak.kept E) (hv.kept E) ax ao h1;have V:Hid _:=h2;have aM:∀q,w.heap[w.heap.size]? ≠some q:=fun q e=>by simp at e
 have aV:=(by obtain⟨kd,e,_⟩:=ak.ex;exact Vah e:rb<w.heap.size)
 have aU:=Vah hv.mp;have I:(w.alloc (.cells #[.pointer (some ⟨rb,0,none⟩),.map (some mb)] 210)).heap[w.heap.size]? =some (.cells #[.pointer (some ⟨rb,0,none⟩),.map (some mb)] 210 (0,0)):=Vag _ _;clear D h1 h2 aM;generalize aW:w.alloc (.cells #[.pointer (some ⟨rb,0,none⟩),.map (some mb)] 210)=w0 at*;have a0:w0.cell? ⟨w.heap.size,0,none⟩=some (.pointer (some ⟨rb,0,none⟩)):=by simp[Vet,I]
 have a1:w0.cell? ⟨w.heap.size,1,none⟩=some (.map (some mb)):=by simp[Vet,I]
 by_cases ae:0<=Y\/(tkAt L k1).is=⟨#[110,111,110,101]⟩
 .have aE:∀loc:Nat,(Y=loc\/(Y<0/\(tkAt L k1).is=⟨#[110,111,110,101]⟩/\(tkAt L k1).loc=loc))->(bad'=loc\/(bad'<0/\(tkAt L k').is=⟨#[110,111,110,101]⟩/\(tkAt L k').loc=loc)):=fun loc hl=>by
   have q:=V.out
   have hf:isM L ⟨#[45,62]⟩ k1 Y=false:=by
    rcases ae with e|e
    .exact JfB e
    .exact Ja3 e (by decide)
   simp only[hf,Vao,VaS,Vaa,Vaf]at q;obtain⟨_,_,rfl,rfl⟩:=q;exact hl
  have aN:Hid _:=aE;clear aE V an I
  go_enter func109,ntmps109
  go_wp2_with fail
  refine Vac HO.out ?_
  intro e w1 G;obtain⟨loc,hl,b,h,aa,ac,Z⟩:=G.thrown ae;rw[h]
  go_wp2
  exact⟨rfl,PRes.thr (Thr2.before ⟨b,rfl,aa,ac,Z⟩ (Kq.of_kept E)) (aN.out loc hl)⟩
 .have aj:Y<0:=by omega
  have aT:(tkAt L k1).is≠⟨#[110,111,110,101]⟩:=fun e=>ae (.inr e)
  have e1:=an aj;subst e1;clear ae an
  go_enter func109,ntmps109
  go_wp2_with fail
  refine Vac HO.out ?_
  intro e w1 G;obtain⟨v,vb1,h,hx,d⟩:=G.1 aj aT;obtain⟨T,u,rfl⟩:=hx.iface;subst h;clear G HO;have hq:=d.kp.block w.heap.size (by have:=Vah I;exact this) (by show¬_;omega);have U:=hq.trans I;have r0:w1.cell? ⟨w.heap.size,0,none⟩=some (.pointer (some ⟨rb,0,none⟩)):=by simp[Vet,U]
  have r1:w1.cell? ⟨w.heap.size,1,none⟩=some (.map (some mb)):=by simp[Vet,U]
  have HI:Hid _:=Jbz hE d.at' ⟨#[45,62]⟩ (.inr (.inl rfl))
  go_wp2_with fail
  refine Vac HI.out ?_
  rintro e w' ⟨rfl,aC⟩;rw[aC];clear aC w' HI;have af:=(Kq.of_kept (S:=fun q=>q=rb\/q=mb) E).trans d.kp;have al:=(PKeep.kept E).trans d.pk
  cases D:isM L ⟨#[45,62]⟩ k1 (-1)
  .have q:=V.out;simp only[D,Vao,VaS,Vaa,Vaf]at q;obtain⟨rfl,rfl,rfl,rfl⟩:=q;clear V I U hq
   go_wp2
   go_ret
   exact PRes.ret aj (hx.wide E.size (Vau _)) ⟨d.at',d.vm,Jdo d.pre E.size,al,af⟩
  .have au:=Jar hG aS D (by decide) (by decide);have q:=V.out;simp only[D,Va0]at q;obtain⟨⟨y,n2,k2,b2⟩,q1,q2⟩:=Vab.1 q;simp only[Vaa,Vaf]at q2;obtain⟨rfl,rfl,rfl,rfl⟩:=q2;have Q1:Hid _:=q1;clear V q q1
   by_cases aq:(tkAt L (k1+1)).is=⟨#[110,111,110,101]⟩
   .have HA:Hid _:=JdA hE d.at' au aq;have aA:=(Jb8 L n n1 (k1+1) (-1) (by omega) aq).2 _ _ _ _ Q1.out;have aH:Hid _:=aA;clear aA Q1 I U hq D
    go_wp2_with fail
    refine Vac HA.out ?_
    rintro e w3 ⟨b,h,aa,ac,Z⟩;rw[h];clear h
    go_wp2
    exact⟨rfl,PRes.thr (Thr2.before (Thr2.of ⟨b,rfl,aa,ac,Z⟩) af) (.inl aH.out)⟩
   .have HA:Hid _:=Je2 hE d.at' au aq;have J:=d.at'.ex;obtain⟨aQ,J,_⟩:=J;clear D
    go_wp2_with fail
    refine Vac HA.out ?_
    rintro e w3 ⟨rfl,O,aD⟩;have aw:=(O.block w.heap.size (Vah U) (by show¬_;omega)).trans U;have aX:w3.cell? ⟨w.heap.size,0,none⟩=some (.pointer (some ⟨rb,0,none⟩)):=by simp[Vet,aw]
    have aY:w3.cell? ⟨w.heap.size,1,none⟩=some (.map (some mb)):=by simp[Vet,aw]
    have ah:=PKeep.rd J O;have Z:=hx.keep ah
    have aB:VM w3 mb n1 vb1:=⟨d.vm.len,O.blk d.vm.mp (fun e=>ao e.symm),fun j hj=>O.blk (d.vm.vr j hj) (fun e=>by
     have e:vb1.getD j 0=rb:=e;have a:=d.vm.vr j hj;rw[e]at a;have J:w1.heap[rb]? =some (.cells #[.string s,.int .i64 aQ,.int .i64 (tkAt L k1).loc,.string (tkAt L k1).s] 256 (0,0)):=J;rw[J]at a;simp at a)⟩
    have ai:=af.trans (Kq.of_kp (S:=fun q=>q=rb\/q=mb) O (fun q e=>Or.inl e));have aK:=al.trans ah;have HT:Hid _:=hA w3 rb mb (k1+1) n1 vb1 y n2 k2 b2 aD aB aP ao Q1.out;obtain⟨u1,aO,aR⟩:=d.pre;have aL:=O.size;clear d J O aD aB ah hx af al I U hq HA
    go_wp2_with fail
    refine Vac HT.out ?_
    intro e w4 G
    by_cases ay:0<=b2\/(tkAt L k2).is=⟨#[110,111,110,101]⟩
    .obtain⟨loc,hl,b,h,aa,ac,ag⟩:=G.thrown ay;rw[h];clear h G
     go_wp2
     exact⟨rfl,PRes.thr (Thr2.before ⟨b,rfl,aa,ac,ag⟩ ai) hl⟩
    .have az:b2<0:=by omega
     have aI:(tkAt L k2).is≠⟨#[110,111,110,101]⟩:=fun e=>ay (.inr e)
     obtain⟨v2,am,h,hy,M⟩:=G.1 az aI;obtain⟨T2,u2,rfl⟩:=hy.iface;subst h;obtain⟨u3,av,aJ⟩:=M.pre;have ag:PTyR w4 am w0.heap.size w1.heap.size x (.iface T u):=by rw[av];exact(Z.keep M.pk).up u3
     have W:Kept w4 (w4.alloc (.cells #[.nilIface,.iface T u,.iface T2 u2] 233)):=Kept.alloc _ _;have aG:PTyR (w4.alloc (.cells #[.nilIface,.iface T u,.iface T2 u2] 233)) am w.heap.size (w4.alloc (.cells #[.nilIface,.iface T u,.iface T2 u2] 233)).heap.size (.mk ⟨#[102,117,110]⟩ 0 [x,y]) (.iface 230 (.pointer (some ⟨w4.heap.size,0,none⟩))):= .fn x y _ _ _ _ w1.heap.size w4.heap.size _ (Vag _ _) ((ag.keep (PKeep.kept W)).wide E.size (Vau _)) ((hy.keep (PKeep.kept W)).wide aL (Vau _)) (Vau _) (by simp);have aF:PEnd w (w4.alloc (.cells #[.nilIface,.iface T u,.iface T2 u2] 233)) rb mb s L k2 n2 vb am:=⟨M.at'.kept W,M.vm.kept W,JkP aO aR av aJ E.size ai.size,(aK.trans M.pk).trans (PKeep.kept W),(ai.trans M.kp).trans (Kq.of_kept W)⟩
     clear G M ag hy Z
     go_wp2
     go_ret
     exact PRes.ret az aG aF
section
variable {w w':World}{rb mb:Nat}{s:BA}{L:List Tk}{k:Nat}{names:List BA}{vb:List Nat}
theorem VM.rd(h:VM w mb names vb)(E:PAt w rb s L k)(g:Kp (·=rb) w w')(G:rb≠mb):VM w' mb names vb:=by
 obtain⟨kd,d,_⟩:=E.ex;refine⟨h.len,g.blk h.mp (fun e=>G e.symm),fun j D=>g.blk (h.vr j D) (fun e=> ?_)⟩
 have e:vb.getD j 0=rb:=e;have a:=h.vr j D;rw[e]at a;have d:w.heap[rb]? =some (.cells #[.string s,.int .i64 kd,.int .i64 (tkAt L k).loc,.string (tkAt L k).s] 256 (0,0)):=d;rw[d]at a;simp at a
theorem PKeep.pat(h:PAt w rb s L k)(g:Kp (·=rb) w w'):PKeep w w':=by
 obtain⟨kd,d,_⟩:=h.ex;exact PKeep.rd d g
theorem PAt.ltq(d:PAt w rb s L k):rb<w.heap.size:=by obtain⟨kd,e,_⟩:=d.ex;exact Vah e
end
variable {l:List Tk}
theorem JcR{k:Nat}(h:isM l q k bad=true):Jab l q k bad=bad/\Jai l q k bad=k+1:=by
 constructor
 .unfold Jab;rw[Vaq (by simp[h])]
 .unfold Jai;rw[Vat h]
theorem Jbk{k:Nat}(h:isM l q k bad=false)(d:bad<0):Jab l q k bad=(tkAt l k).loc/\Jai l q k bad=k:=by
 constructor
 .unfold Jab;rw[Vat (by simp[h,d])]
 .unfold Jai;rw[Vaq (by simp[h])]
theorem JkK(s:BA)(kws:List BA)(L:List Tk)(hE:PEnv s kws L)(n:Nat)(hA:Jjm s L n)(w:World)(rb mb k:Nat)(names:List BA)(vb:List Nat)(x:Ty)(n1:List BA)(k1:Nat)(G:Int)
 (aj:PAt w rb s L k)(hv:VM w mb names vb)(aH:NmOk L names)(av:rb≠mb)(d:isM L ⟨#[91]⟩ k (-1)=true)(U:Jaq L n names (k+1) (-1)=some (x,n1,k1,G)):
  Calls prog 180 #[.agg #[.pointer (some ⟨rb,0,none⟩),.map (some mb)]] w fun e w'=>PRes w rb mb s L (.mk ⟨#[108,105,115,116]⟩ 0 [x]) n1 (Jai L ⟨#[93]⟩ k1 G) (Jab L ⟨#[93]⟩ k1 G) vb e w':=by
 have hG:=hE.good;have ao:=Jar hG aj.lt d (by decide) (by decide);have ag:Kept w (w.alloc (.cells #[.pointer (some ⟨rb,0,none⟩),.map (some mb)] 210)):=Kept.alloc _ _;have V:(w.alloc (.cells #[.pointer (some ⟨rb,0,none⟩),.map (some mb)] 210)).heap[w.heap.size]? =some (.cells #[.pointer (some ⟨rb,0,none⟩),.map (some mb)] 210 (0,0)):=Vag _ _;have Z:=aj.kept ag;have aC:=hv.kept ag;have aT:=aj.ltq;have aS:=Vah hv.mp;clear aj hv;generalize aU:w.alloc (.cells #[.pointer (some ⟨rb,0,none⟩),.map (some mb)] 210)=w0 at*;have a0:w0.cell? ⟨w.heap.size,0,none⟩=some (.pointer (some ⟨rb,0,none⟩)):=by simp[Vet,V]
 have a1:w0.cell? ⟨w.heap.size,1,none⟩=some (.map (some mb)):=by simp[Vet,V]
 have aE:Kq (fun q=>q=rb\/q=mb) w w0:=Kq.of_kept ag
 by_cases aq:(tkAt L (k+1)).is=⟨#[110,111,110,101]⟩
 .have E:Hid _:=Jeb hE Z ⟨#[91]⟩ (.inr (.inr ⟨91,rfl,rfl⟩)) ao d aq;have ay:=(Jb8 L n names (k+1) (-1) (by omega) aq).2 _ _ _ _ U;have aJ:Hid (Jab L ⟨#[93]⟩ k1 G=(tkAt L (k+1)).loc):=by show _=_;rw[Ja5 (by omega)];exact ay
  clear ay U d V
  go_enter func180,ntmps180
  go_wp2_with fail
  refine Vac E.out ?_
  rintro e w3 ⟨b,h,J,O,ae⟩;rw[h];clear h
  go_wp2
  exact⟨rfl,PRes.thr (Thr2.before (Thr2.of ⟨b,rfl,J,O,ae⟩) aE) (.inl aJ.out)⟩
 .have E:Hid _:=Jf5 hE Z ⟨#[91]⟩ (.inr (.inr ⟨91,rfl,rfl⟩)) ao d aq;have aB:=((Jb7 L n).1 _ _ _ _ _ _ _ U).2;obtain⟨aP,aX⟩:=(Jcj L hG n).1 _ _ _ _ _ _ _ U ao aH;have aA:Hid _:=U;clear U d
  go_enter func180,ntmps180
  go_wp2_with fail
  refine Vac E.out ?_
  rintro e w3 ⟨rfl,af,aD⟩;have az:=aC.rd Z af av;have ax:=PKeep.pat Z af;have M:=(af.block w.heap.size (Vah V) (by show¬_;omega)).trans V;have aV:w3.cell? ⟨w.heap.size,0,none⟩=some (.pointer (some ⟨rb,0,none⟩)):=by simp[Vet,M]
  have aY:w3.cell? ⟨w.heap.size,1,none⟩=some (.map (some mb)):=by simp[Vet,M]
  have ai:=aE.trans (Kq.of_kp (S:=fun q=>q=rb\/q=mb) af (fun q e=>Or.inl e));have aM:=(PKeep.kept ag).trans ax;have HT:Hid _:=hA w3 rb mb (k+1) names vb x n1 k1 G aD az aH av aA.out;clear Z aC af aD az ax V E aA a0 a1
  go_wp2_with fail
  refine Vac HT.out ?_
  intro e w4 ak
  by_cases an:0<=G\/(tkAt L k1).is=⟨#[110,111,110,101]⟩
  .obtain⟨loc,hl,b,h,J,O,aN⟩:=ak.thrown an
   have aI:Jab L ⟨#[93]⟩ k1 G=loc:=by
    rcases hl with e|⟨e1,e2,e3⟩
    .rw[Ja5 (by omega)];exact e
    .rw[(Jbk (Ja3 e2 (by decide)) e1).1,e3]
   have aR:Hid _:=aI;rw[h];clear h ak aI hl
   go_wp2
   exact⟨rfl,PRes.thr (Thr2.before ⟨b,rfl,J,O,aN⟩ ai) (.inl aR.out)⟩
  .have aa:G<0:=by omega
   have aL:(tkAt L k1).is≠⟨#[110,111,110,101]⟩:=fun e=>an (.inr e)
   have e1:=aB aa;subst e1;obtain⟨v,vb1,h,hx,D⟩:=ak.1 aa aL;obtain⟨T,u,rfl⟩:=hx.iface;subst h;clear ak HT an aB;have ac:=(D.kp.block w.heap.size (Vah M) (by show¬_;omega)).trans M;have aW:w4.cell? ⟨w.heap.size,0,none⟩=some (.pointer (some ⟨rb,0,none⟩)):=by simp[Vet,ac]
   have aZ:w4.cell? ⟨w.heap.size,1,none⟩=some (.map (some mb)):=by simp[Vet,ac]
   have am:=ai.trans D.kp;have aK:=aM.trans D.pk
   cases d:isM L ⟨#[93]⟩ k1 (-1)
   .have E:Hid _:=Jg8 hE D.at' ⟨#[93]⟩ (.inr (.inr ⟨93,rfl,rfl⟩)) d;have HB:Hid _:=(Jbk d aa).1;clear d M ac
    go_wp2_with fail
    refine Vac E.out ?_
    rintro e I ⟨b,h,J,O,ae⟩;rw[h];clear h
    go_wp2
    exact⟨rfl,PRes.thr (Thr2.before (Thr2.of ⟨b,rfl,J,O,ae⟩) am) (.inl HB.out)⟩
   .have aw:=Jar hG aP d (by decide) (by decide);have ah:Hid _:=JcR d
    by_cases au:(tkAt L (k1+1)).is=⟨#[110,111,110,101]⟩
    .have E:Hid _:=Jeb hE D.at' ⟨#[93]⟩ (.inr (.inr ⟨93,rfl,rfl⟩)) aw d au;clear d M ac
     go_wp2_with fail
     refine Vac E.out ?_
     rintro e I ⟨b,h,J,O,ae⟩;rw[h];clear h
     go_wp2
     exact⟨rfl,by rw[ah.out.1,ah.out.2];exact PRes.thr (Thr2.before (Thr2.of ⟨b,rfl,J,O,ae⟩) am) (.inr ⟨aa,au,rfl⟩)⟩
    .have E:Hid _:=Jf5 hE D.at' ⟨#[93]⟩ (.inr (.inr ⟨93,rfl,rfl⟩)) aw d au;clear d M ac
     go_wp2_with fail
     refine Vac E.out ?_
     rintro e I ⟨rfl,W,aG⟩;have al:=PKeep.pat D.at' W;have aF:=D.vm.rd D.at' W av;have Y:Kept I (I.alloc (.cells #[.nilIface,.iface T u] 225)):=Kept.alloc _ _;have aQ:PTyR (I.alloc (.cells #[.nilIface,.iface T u] 225)) vb1 w.heap.size (I.alloc (.cells #[.nilIface,.iface T u] 225)).heap.size (.mk ⟨#[108,105,115,116]⟩ 0 [x]) (.iface 222 (.pointer (some ⟨I.heap.size,0,none⟩))):= .list x _ _ _ w4.heap.size _ (Vag _ _) (((hx.keep al).keep (PKeep.kept Y)).wide ai.size (Vau _)) W.size (by simp);have aO:PEnd w (I.alloc (.cells #[.nilIface,.iface T u] 225)) rb mb s L (k1+1) n1 vb vb1:=⟨aG.kept Y,aF.kept Y,Jdo D.pre ai.size,(aK.trans al).trans (PKeep.kept Y),(am.trans (Kq.of_kp W (fun q e=>Or.inl e))).trans (Kq.of_kept Y)⟩
     clear D W aG aF al hx
     go_wp2
     go_ret
     rw[ah.out.1,ah.out.2];exact PRes.ret aa aQ aO
variable {w4:World}{k1:Nat}{n1:List BA}{vb1:List Nat}
theorem Jod{s:BA}{kws:List BA}{L:List Tk}(hE:PEnv s kws L){w:World}{rb mb:Nat}{vb:List Nat}{x:Ty}(W:rb≠mb)(O:PTyR w4 vb1 lo w4.heap.size x v)(d:PEnd w w4 rb mb s L k1 n1 vb vb1):
  Calls prog 173 #[.pointer (some ⟨rb,0,none⟩),.string ⟨#[41]⟩] w4 fun e w'=>
   (∃loc:Nat,(Jab L ⟨#[41]⟩ k1 (-1)=loc\/(Jab L ⟨#[41]⟩ k1 (-1)<0/\(tkAt L (Jai L ⟨#[41]⟩ k1 (-1))).is=⟨#[110,111,110,101]⟩/\(tkAt L (Jai L ⟨#[41]⟩ k1 (-1))).loc=loc))/\Thr2 w rb mb loc e w')\/
   (e= .returned (.tuple #[])/\Jab L ⟨#[41]⟩ k1 (-1)<0/\PTyR w' vb1 lo w'.heap.size x v/\PEnd w w' rb mb s L (Jai L ⟨#[41]⟩ k1 (-1)) n1 vb vb1):=by
 have V:=hE.good
 cases h:isM L ⟨#[41]⟩ k1 (-1)
 .refine(Jg8 hE d.at' ⟨#[41]⟩ (.inr (.inr ⟨41,rfl,rfl⟩)) h).mono ?_
  intro e w' G;exact .inl ⟨_,.inl (Jbk h (by omega)).1,Thr2.before (Thr2.of G) d.kp⟩
 .have M:=Jar V d.at'.lt h (by decide) (by decide);have D:=JcR h
  by_cases I:(tkAt L (k1+1)).is=⟨#[110,111,110,101]⟩
  .refine(Jeb hE d.at' ⟨#[41]⟩ (.inr (.inr ⟨41,rfl,rfl⟩)) M h I).mono ?_
   intro e w' G;exact .inl ⟨_,.inr ⟨by rw[D.1];omega,by rw[D.2];exact I,by rw[D.2]⟩,Thr2.before (Thr2.of G) d.kp⟩
  .refine(Jf5 hE d.at' ⟨#[41]⟩ (.inr (.inr ⟨41,rfl,rfl⟩)) M h I).mono ?_
   rintro e Y ⟨rfl,E,T⟩;have J:=PKeep.pat d.at' E;have U:=d.vm.rd d.at' E W;rw[D.1,D.2];exact .inr ⟨rfl,by omega,(O.keep J).wide (Vau _) E.size,T,U,d.pre,d.pk.trans J,d.kp.trans (Kq.of_kp E (fun q e=>Or.inl e))⟩
theorem Jmz(s:BA)(kws:List BA)(L:List Tk)(hE:PEnv s kws L)(n:Nat)(hA:Jjm s L n)(w:World)(rb mb k:Nat)(names:List BA)(vb:List Nat)(x:Ty)(n1:List BA)(k1:Nat)(I:Int)(t:Ty)(names':List BA)(k':Nat)(bad':Int)
 (an:PAt w rb s L k)(hv:VM w mb names vb)(aN:NmOk L names)(af:rb≠mb)(D:isM L ⟨#[40]⟩ k (-1)=true)(ae:Jaq L n names (k+1) (-1)=some (x,n1,k1,I))
 (hR:(if isM L ⟨#[44]⟩ k1 I then(Jaq L n n1 (k1+1) I).bind fun s=>some (Ty.mk ⟨#[112,97,105,114]⟩ 0 [x,s.1],s.2.1,Jai L ⟨#[41]⟩ s.2.2.1 s.2.2.2,Jab L ⟨#[41]⟩ s.2.2.1 s.2.2.2)else some (x,n1,Jai L ⟨#[41]⟩ k1 I,Jab L ⟨#[41]⟩ k1 I))=some (t,names',k',bad')):
  Calls prog 181 #[.agg #[.pointer (some ⟨rb,0,none⟩),.map (some mb)]] w fun e w'=>PRes w rb mb s L t names' k' bad' vb e w':=by
 have hG:=hE.good;have aC:=Jar hG an.lt D (by decide) (by decide);have ao:Kept w (w.alloc (.cells #[.pointer (some ⟨rb,0,none⟩),.map (some mb)] 210)):=Kept.alloc _ _;have ag:(w.alloc (.cells #[.pointer (some ⟨rb,0,none⟩),.map (some mb)] 210)).heap[w.heap.size]? =some (.cells #[.pointer (some ⟨rb,0,none⟩),.map (some mb)] 210 (0,0)):=Vag _ _;have h0:=an.kept ao;have aJ:=hv.kept ao;have bk:=an.ltq;have bj:=Vah hv.mp;have Y:Hid _:=hR;clear an hv hR;generalize bm:w.alloc (.cells #[.pointer (some ⟨rb,0,none⟩),.map (some mb)] 210)=w0 at*;have a0:w0.cell? ⟨w.heap.size,0,none⟩=some (.pointer (some ⟨rb,0,none⟩)):=by simp[Vet,ag]
 have a1:w0.cell? ⟨w.heap.size,1,none⟩=some (.map (some mb)):=by simp[Vet,ag]
 have aR:Kq (fun q=>q=rb\/q=mb) w w0:=Kq.of_kept ao
 have FX:Hid (∀loc:Nat,(I=loc\/(I<0/\(tkAt L k1).is=⟨#[110,111,110,101]⟩/\(tkAt L k1).loc=loc))->bad'=loc):=fun loc h=>by
  have q:=Y.out
  have hf:isM L ⟨#[44]⟩ k1 I=false:=by
   rcases h with e|⟨_,e,_⟩
   .exact JfB (by omega)
   .exact Ja3 e (by decide)
  simp only[hf,Vao,VaS,Vaa,Vaf]at q;obtain⟨_,_,_,rfl⟩:=q
  rcases h with e|⟨e1,e2,e3⟩
  .rw[Ja5 (by omega)];exact e
  .rw[(Jbk (Ja3 e2 (by decide)) e1).1,e3]
 by_cases aD:(tkAt L (k+1)).is=⟨#[110,111,110,101]⟩
 .have HX:Hid _:=Jeb hE h0 ⟨#[40]⟩ (.inr (.inr ⟨40,rfl,rfl⟩)) aC D aD;have ai:=(Jb8 L n names (k+1) (-1) (by omega) aD).2 _ _ _ _ ae;have au:Hid (bad'=(tkAt L (k+1)).loc):=FX.out _ (.inl ai);clear ai ae D ag FX Y
  go_enter func181,ntmps181
  go_wp2_with fail
  refine Vac HX.out ?_
  rintro e w3 ⟨b,d,G,J,W⟩;rw[d];clear d
  go_wp2
  exact⟨rfl,PRes.thr (Thr2.before (Thr2.of ⟨b,rfl,G,J,W⟩) aR) (.inl au.out)⟩
 .have HX:Hid _:=Jf5 hE h0 ⟨#[40]⟩ (.inr (.inr ⟨40,rfl,rfl⟩)) aC D aD;have aV:=((Jb7 L n).1 _ _ _ _ _ _ _ ae).2;obtain⟨a4,bb⟩:=(Jcj L hG n).1 _ _ _ _ _ _ _ ae aC aN;have aH:Hid _:=ae;clear ae D
  go_enter func181,ntmps181
  go_wp2_with fail
  refine Vac HX.out ?_
  rintro e w3 ⟨rfl,ak,aX⟩;have aQ:=aJ.rd h0 ak af;have aF:=PKeep.pat h0 ak;have ah:=(ak.block w.heap.size (Vah ag) (by show¬_;omega)).trans ag;have bp:w3.cell? ⟨w.heap.size,0,none⟩=some (.pointer (some ⟨rb,0,none⟩)):=by simp[Vet,ah]
  have bu:w3.cell? ⟨w.heap.size,1,none⟩=some (.map (some mb)):=by simp[Vet,ah]
  have am:=aR.trans (Kq.of_kp (S:=fun q=>q=rb\/q=mb) ak (fun q e=>Or.inl e));have a7:=(PKeep.kept ao).trans aF;have HT:Hid _:=hA w3 rb mb (k+1) names vb x n1 k1 I aX aQ aN af aH.out;clear h0 aJ ak aX aQ aF ag HX aH a0 a1
  go_wp2_with fail
  refine Vac HT.out ?_
  intro e w4 O
  by_cases av:0<=I\/(tkAt L k1).is=⟨#[110,111,110,101]⟩
  .obtain⟨loc,h,b,d,G,J,aA⟩:=O.thrown av;have ax:Hid _:=FX.out loc h;rw[d];clear d O h FX Y
   go_wp2
   exact⟨rfl,PRes.thr (Thr2.before ⟨b,rfl,G,J,aA⟩ am) (.inl ax.out)⟩
  .have aS:I<0:=by omega
   have bf:(tkAt L k1).is≠⟨#[110,111,110,101]⟩:=fun e=>av (.inr e)
   have e1:=aV aS;subst e1;obtain⟨v,vb1,d,hx,U⟩:=O.1 aS bf;obtain⟨T,u,rfl⟩:=hx.iface;have hx:=hx.wide am.size (Vau _);subst d;clear O HT av aV FX;have aa:=(U.kp.block w.heap.size (Vah ah) (by show¬_;omega)).trans ah;have bn:w4.cell? ⟨w.heap.size,0,none⟩=some (.pointer (some ⟨rb,0,none⟩)):=by simp[Vet,aa]
   have bi:w4.cell? ⟨w.heap.size,1,none⟩=some (.map (some mb)):=by simp[Vet,aa]
   have E:PEnd w w4 rb mb s L k1 n1 vb vb1:=⟨U.at',U.vm,Jdo U.pre am.size,a7.trans U.pk,am.trans U.kp⟩
   have HI:Hid _:=Jbz hE U.at' ⟨#[44]⟩ (.inr (.inr ⟨44,rfl,rfl⟩));clear U ah
   go_wp2_with fail
   refine Vac HI.out ?_
   rintro e w' ⟨rfl,aT⟩;rw[aT];clear aT w' HI
   cases D:isM L ⟨#[44]⟩ k1 (-1)
   .have q:=Y.out;simp only[D,Vao,VaS,Vaa,Vaf]at q;obtain⟨rfl,rfl,rfl,rfl⟩:=q;have HC:Hid _:=Jod hE af hx E;clear Y D hx E aa
    go_wp2_with fail
    refine Vac HC.out ?_
    rintro e w5 (⟨loc,h,b,d,G,J,W⟩|⟨rfl,aw,al,a8⟩)
    .rw[d];clear d
     go_wp2
     exact⟨rfl,PRes.thr ⟨b,rfl,G,J,W⟩ h⟩
    .go_wp2
     go_ret
     exact PRes.ret aw al a8
   .have aE:=Jar hG a4 D (by decide) (by decide);have q:=Y.out;simp only[D,Va0]at q;obtain⟨⟨y,n2,k2,b2⟩,q1,q2⟩:=Vab.1 q;simp only[Vaa,Vaf]at q2;obtain⟨rfl,rfl,rfl,rfl⟩:=q2;have Q1:Hid _:=q1;have aK:=((Jb7 L n).1 _ _ _ _ _ _ _ q1).2;clear Y q q1
    by_cases ay:(tkAt L (k1+1)).is=⟨#[110,111,110,101]⟩
    .have HA:Hid _:=JdA hE E.at' aE ay;have ai:=(Jb8 L n n1 (k1+1) (-1) (by omega) ay).2 _ _ _ _ Q1.out;have au:Hid (Jab L ⟨#[41]⟩ k2 b2=(tkAt L (k1+1)).loc):=by show _=_;rw[Ja5 (by omega)];exact ai
     clear ai Q1 D aa aK
     go_wp2_with fail
     refine Vac HA.out ?_
     rintro e w5 ⟨b,d,G,J,W⟩;rw[d];clear d
     go_wp2
     exact⟨rfl,PRes.thr (Thr2.before (Thr2.of ⟨b,rfl,G,J,W⟩) E.kp) (.inl au.out)⟩
    .have HA:Hid _:=Je2 hE E.at' aE ay;clear D
     go_wp2_with fail
     refine Vac HA.out ?_
     rintro e w5 ⟨rfl,ac,aW⟩;have aY:=E.vm.rd E.at' ac af;have aq:=PKeep.pat E.at' ac;have aj:=(ac.block w.heap.size (Vah aa) (by show¬_;omega)).trans aa;have bh:w5.cell? ⟨w.heap.size,0,none⟩=some (.pointer (some ⟨rb,0,none⟩)):=by simp[Vet,aj]
     have bs:w5.cell? ⟨w.heap.size,1,none⟩=some (.map (some mb)):=by simp[Vet,aj]
     have aB:=E.kp.trans (Kq.of_kp (S:=fun q=>q=rb\/q=mb) ac (fun q e=>Or.inl e));have a3:=E.pk.trans aq;have al:=hx.keep aq;have HT:Hid _:=hA w5 rb mb (k1+1) n1 vb1 y n2 k2 b2 aW aY bb af Q1.out;obtain⟨u1,ba,be⟩:=E.pre;have bc:=ac.size;clear E ac aW aY aq hx aa HA
     go_wp2_with fail
     refine Vac HT.out ?_
     intro e M O
     by_cases aO:0<=b2\/(tkAt L k2).is=⟨#[110,111,110,101]⟩
     .obtain⟨loc,h,b,d,G,J,aA⟩:=O.thrown aO
      have a2:Jab L ⟨#[41]⟩ k2 b2=loc:=by
       rcases h with e|⟨e1,e2,e3⟩
       .rw[Ja5 (by omega)];exact e
       .rw[(Jbk (Ja3 e2 (by decide)) e1).1,e3]
      have ax:Hid _:=a2;rw[d];clear d O a2 h
      go_wp2
      exact⟨rfl,PRes.thr (Thr2.before ⟨b,rfl,G,J,aA⟩ aB) (.inl ax.out)⟩
     .have aP:b2<0:=by omega
      have a6:(tkAt L k2).is≠⟨#[110,111,110,101]⟩:=fun e=>aO (.inr e)
      have e2:=aK aP;subst e2;obtain⟨v2,az,d,hy,V⟩:=O.1 aP a6;obtain⟨T2,u2,rfl⟩:=hy.iface;subst d;obtain⟨u3,aI,a5⟩:=V.pre;have aG:PTyR M az w.heap.size w4.heap.size x (.iface T u):=by rw[aI];exact(al.keep V.pk).up u3
      have Z:Kept M (M.alloc (.cells #[.nilIface,.iface T u,.iface T2 u2] 229)):=Kept.alloc _ _;have aM:PTyR (M.alloc (.cells #[.nilIface,.iface T u,.iface T2 u2] 229)) az w.heap.size (M.alloc (.cells #[.nilIface,.iface T u,.iface T2 u2] 229)).heap.size (.mk ⟨#[112,97,105,114]⟩ 0 [x,y]) (.iface 226 (.pointer (some ⟨M.heap.size,0,none⟩))):= .pair x y _ _ _ _ w4.heap.size M.heap.size _ (Vag _ _) (aG.keep (PKeep.kept Z)) ((hy.keep (PKeep.kept Z)).wide bc (Vau _)) (Vau _) (by simp);have aL:PEnd w (M.alloc (.cells #[.nilIface,.iface T u,.iface T2 u2] 229)) rb mb s L k2 n2 vb az:=⟨V.at'.kept Z,V.vm.kept Z,JkP ba be aI a5 (Vau _) aB.size,(a3.trans V.pk).trans (PKeep.kept Z),(aB.trans V.kp).trans (Kq.of_kept Z)⟩
      have aZ:=(V.kp.block w.heap.size (Vah aj) (by show¬_;omega)).trans aj;have aU:=Z.blk aZ;have br:(M.alloc (.cells #[.nilIface,.iface T u,.iface T2 u2] 229)).cell? ⟨w.heap.size,0,none⟩=some (.pointer (some ⟨rb,0,none⟩)):=by simp only[Vet,aU];rfl
      have HC:Hid _:=Jod hE af aM aL;clear O V aG hy al aM aL aZ aU aj
      go_wp2_with fail
      refine Vac HC.out ?_
      rintro e w8 (⟨loc,h,b,d,G,J,W⟩|⟨rfl,aw,bg,a9⟩)
      .rw[d];clear d
       go_wp2
       exact⟨rfl,PRes.thr ⟨b,rfl,G,J,W⟩ h⟩
      .go_wp2
       go_ret
       exact PRes.ret aw bg a9
end Go.Proofs.YtleenphlgbklmaaGreatDoor
