import Derived.Test.YtleenphlgbklmaaGreatDoorACPTyAll
import Derived.Test.YtleenphlgbklmaaGreatDoorACPRoom
import Derived.Shelf.SlIter.Nil
import Derived.Shelf.SortM.Plain
import Derived.Shelf.SortM.SortNone
import Derived.Ground.GgzProg
import Derived.Ground.SlgmProg
set_option linter.unusedVariables false
set_option linter.unusedSimpArgs false
set_option maxRecDepth 100000
set_option maxHeartbeats 8000000
namespace Go.Proofs.YtleenphlgbklmaaGreatDoor
open Kept renaming alloc → Vet
open World renaming cell? → Veu, frozen? → Vev, setCell → Vew
open Tryz
variable {q:BA}{w':World}{A:Nat->Addr}
def bz(l:List Tk)(k:Nat)(bad:Int):Int:=if 0<=bad then bad else if(tkAt l k).is=⟨#[110,111,110,101]⟩then((tkAt l k).loc:Int)else-1
section
variable {l:List Tk}{k:Nat}{bad:Int}
theorem Jha(h:0<=bad):bz l k bad=bad:=by unfold bz;rw[Vat h]
theorem Jef(h:bad<0)(d:(tkAt l k).is=⟨#[110,111,110,101]⟩):bz l k bad=(tkAt l k).loc:=by unfold bz;rw[Vaq (by omega),Vat d]
theorem JqC(h:bz l k bad<0):bad<0/\(tkAt l k).is≠⟨#[110,111,110,101]⟩:=by
 unfold bz at h
 split at h
 .omega
 .split at h
  .omega
  .exact⟨by omega,by assumption⟩
theorem JlT(h:bad<0)(d:(tkAt l k).is≠⟨#[110,111,110,101]⟩):bz l k bad= -1:=by unfold bz;rw[Vaq (by omega),Vaq d]
theorem JdB(h:0<=bz l k bad):bz l k (bz l k bad)=bz l k bad:=Jha h
theorem JbK(h:0<=bz l k bad)(E:q.data.toList≠(⟨#[110,111,110,101]⟩:BA).data.toList):isM l q k bad=false:=by
 by_cases D:0<=bad
 .exact JfB D
 .by_cases d:(tkAt l k).is=⟨#[110,111,110,101]⟩
  .exact Ja3 d E
  .rw[JlT (by omega) d]at h;omega
theorem JcA(h:0<=bz l k bad)(E:q.data.toList≠(⟨#[110,111,110,101]⟩:BA).data.toList):Jai l q k bad=k/\Jab l q k bad=bz l k bad:=by
 have e:=JbK h E;unfold Jai Jab;rw[e];refine⟨rfl,?_⟩
 by_cases D:0<=bad
 .rw[Jha D,Vaq (by simp;omega)]
 .by_cases d:(tkAt l k).is=⟨#[110,111,110,101]⟩
  .rw[Jef (by omega) d,Vat (by simp;omega)]
  .rw[JlT (by omega) d]at h;omega
theorem Jay(h:0<=bz l k bad)(d:q.data.toList≠(⟨#[110,111,110,101]⟩:BA).data.toList):bz l (Jai l q k bad) (Jab l q k bad)=bz l k bad:=by
 rw[(JcA h d).1,(JcA h d).2];exact JdB h
variable {names:List BA}{loc:Nat}
theorem JjF{s:BA}(h:0<=bad):dupB names s loc bad=bad:=by
 unfold dupB;rw[Vaq (by simp;omega)]
end
structure Stk(l:List Tk)(n:Nat):Prop where
 ex:∀k bad x k' bad',expM l n k bad=some (x,k',bad')->0<=bz l k bad->bz l k' bad'=bz l k bad
 bo:∀names kids k bad ns' ks' k' bad',Jaz l n names kids k bad=some (ns',ks',k',bad')->0<=bz l k bad->bz l k' bad'=bz l k bad
 an:∀names kids k bad ns' ks' k' bad',andM l n names kids k bad=some (ns',ks',k',bad')->0<=bz l k bad->bz l k' bad'=bz l k bad
 at':∀k bad x k' bad',Ja0 l n k bad=some (x,k',bad')->0<=bz l k bad->bz l k' bad'=bz l k bad
 ap:∀x k bad x' k' bad',appM l n x k bad=some (x',k',bad')->0<=bz l k bad->bz l k' bad'=bz l k bad
theorem stk(l:List Tk):∀n,Stk l n:=by
 intro n
 induction n with
 |zero=>exact⟨fun _ _ _ _ _ h=>by simp[expM]at h,fun _ _ _ _ _ _ _ _ h=>by simp[Jaz]at h,fun _ _ _ _ _ _ _ _ h=>by simp[andM]at h,fun _ _ _ _ _ h=>by simp[Ja0]at h,fun _ _ _ _ _ _ h=>by simp[appM]at h⟩
 |succ n L=>
  refine⟨?_,?_,?_,?_,?_⟩
  .intro k bad x k' bad' h d;simp only[expM,JbK d (show(⟨#[102,117,110]⟩:BA).data.toList≠(⟨#[110,111,110,101]⟩:BA).data.toList by decide),JbK d (show(⟨#[105,102]⟩:BA).data.toList≠(⟨#[110,111,110,101]⟩:BA).data.toList by decide),JbK d (show(⟨#[108,101,116]⟩:BA).data.toList≠(⟨#[110,111,110,101]⟩:BA).data.toList by decide),Vao,VaS]at h
   split at h
   .simp only[Vaa,Vaf]at h;obtain⟨_,rfl,rfl⟩:=h;rfl
   .obtain⟨⟨T,M,O⟩,D,E⟩:=Vab.1 h;have e:=L.at' _ _ _ _ _ D d;exact(L.ap _ _ _ _ _ _ E (by simp only;omega)).trans e
  .intro names kids k bad W V k' bad' h d;simp only[Jaz]at h;obtain⟨⟨T,M,O⟩,D,E⟩:=Vab.1 h;simp only[Vaa,Vaf]at E;obtain⟨_,_,rfl,rfl⟩:=E;have G:=JcA d (show(⟨#[110,97,109,101]⟩:BA).data.toList≠(⟨#[110,111,110,101]⟩:BA).data.toList by decide);rw[G.1,G.2,JjF d]at D;have J:0<=bz l k (bz l k bad):=by rw[JdB d];exact d
   have I:=JcA J (show(⟨#[61]⟩:BA).data.toList≠(⟨#[110,111,110,101]⟩:BA).data.toList by decide);rw[I.1,I.2,JdB d]at D;rw[L.ex _ _ _ _ _ D J,JdB d]
  .intro names kids k bad W V k' bad' h d;simp only[andM,JbK d (show(⟨#[97,110,100]⟩:BA).data.toList≠(⟨#[110,111,110,101]⟩:BA).data.toList by decide),Vao,VaS,Vaa,Vaf]at h;obtain⟨_,_,rfl,rfl⟩:=h;rfl
  .intro k bad x k' bad' h d;simp only[Ja0,JbK d (show(⟨#[110,97,109,101]⟩:BA).data.toList≠(⟨#[110,111,110,101]⟩:BA).data.toList by decide),JbK d (show(⟨#[110,117,109]⟩:BA).data.toList≠(⟨#[110,111,110,101]⟩:BA).data.toList by decide),Vdv,Vao,VaS]at h;obtain⟨⟨T,M,O⟩,D,E⟩:=Vab.1 h;have G:=JcA d (show(⟨#[40]⟩:BA).data.toList≠(⟨#[110,111,110,101]⟩:BA).data.toList by decide);rw[G.1,G.2]at D;have J:0<=bz l k (bz l k bad):=by rw[JdB d];exact d
   have I:=L.ex _ _ _ _ _ D J;rw[JdB d]at I;have U:0<=bz l M O:=by omega
   simp only[JbK U (show(⟨#[44]⟩:BA).data.toList≠(⟨#[110,111,110,101]⟩:BA).data.toList by decide),Vao,VaS,Vaa,Vaf]at E;obtain⟨_,rfl,rfl⟩:=E;rw[Jay U (by decide),I]
  .intro x k bad Y k' bad' h d;simp only[appM,JbK d (show(⟨#[110,97,109,101]⟩:BA).data.toList≠(⟨#[110,111,110,101]⟩:BA).data.toList by decide),JbK d (show(⟨#[110,117,109]⟩:BA).data.toList≠(⟨#[110,111,110,101]⟩:BA).data.toList by decide),JbK d (show(⟨#[40]⟩:BA).data.toList≠(⟨#[110,111,110,101]⟩:BA).data.toList by decide),Vdv,Vao,VaS,Vaa,Vaf]at h;obtain⟨_,rfl,rfl⟩:=h;rfl
open Go.RowKit
def ThrX(w:World)(rb:Nat)(loc:Int)(e:Ending)(w':World):Prop:=∃b:Nat,e=thrown (.iface 134 (.pointer (some ⟨b,0,none⟩)))/\(∃n:Nat,loc=n/\w'.heap[b]? =some (.cells #[.int .i64 n] 145 (0,0)))/\w.heap.size<=b/\Kq (·=rb) w w'
def PRet(Q:World->Value->Prop)(w:World)(rb:Nat)(s:BA)(L:List Tk)(k':Nat)(bad':Int)(e:Ending)(w':World):Prop:=
 (bz L k' bad'<0->bad'= -1/\∃v,e= .returned v/\Q w' v/\PAt w' rb s L k'/\Kq (·=rb) w w')/\(0<=bz L k' bad'->ThrX w rb (bz L k' bad') e w')
variable {w0:World}{z:Int}
theorem ThrX.before{w:World}{rb:Nat}{e:Ending}(h:ThrX w rb z e w')(d:Kq (·=rb) w0 w):ThrX w0 rb z e w':=by
 obtain⟨b,G,D,I,E⟩:=h;exact⟨b,G,D,Vas d.size I,d.trans E⟩
variable {loc:Nat}
theorem ThrX.of{w:World}{rb:Nat}{e:Ending}(h:ThrS w loc e w'):ThrX w rb loc e w':=by
 obtain⟨b,E,d,G,D⟩:=h;exact⟨b,E,⟨loc,rfl,d⟩,G,Kq.of_kept D⟩
variable {Q:World->Value->Prop}{k':Nat}{bad':Int}
theorem PRet.thr{w:World}{rb:Nat}{s:BA}{L:List Tk}{e:Ending}(h:ThrX w rb z e w')(d:bz L k' bad'=z)(D:0<=z):PRet Q w rb s L k' bad' e w':=
 ⟨fun q=>by omega,fun _=>by rw[d];exact h⟩
variable {v:Value}
theorem PRet.ret{w:World}{rb:Nat}{s:BA}{L:List Tk}(D:Q w' v)(d:PAt w' rb s L k')(h:Kq (·=rb) w w'):PRet Q w rb s L k' (-1) (.returned v) w':=
 ⟨fun _=>⟨rfl,v,rfl,D,d,h⟩,fun q=>by rw[JlT (by omega) d.nn]at q;omega⟩
theorem PAt.lt'{w:World}{rb:Nat}{s:BA}{L:List Tk}{k:Nat}(h:PAt w rb s L k):rb<w.heap.size:=by
 obtain⟨kd,e,_⟩:=h.ex;exact Vah e
theorem Jaw{L:List Tk}{k:Nat}(h:isM L q k (-1)=true):Jai L q k (-1)=k+1/\Jab L q k (-1)= -1:=by
 unfold Jai Jab;rw[h];exact⟨rfl,rfl⟩
theorem JaO{L:List Tk}{k:Nat}(h:isM L q k (-1)=false):Jai L q k (-1)=k/\Jab L q k (-1)=(tkAt L k).loc:=by
 unfold Jai Jab;rw[h];exact⟨rfl,rfl⟩
section
variable {s:BA}{kws:List BA}{L:List Tk}(hE:PEnv s kws L){w:World}{rb k:Nat}
include hE
theorem Jfg(h:PAt w rb s L k)(D:k+1<L.length):Calls prog 128 #[.pointer (some ⟨rb,0,none⟩)] w fun e w'=>PRet (fun _ v=>v= .tuple #[]) w rb s L (k+1) (-1) e w':=by
 by_cases d:(tkAt L (k+1)).is=⟨#[110,111,110,101]⟩
 .refine(JdA hE h D d).mono ?_
  intro e w' ht;exact PRet.thr (ThrX.of ht) (Jef (by omega) d) (by omega)
 .refine(Je2 hE h D d).mono ?_
  rintro e w' ⟨rfl,G,E⟩;exact PRet.ret rfl E (Kq.of_kp G (fun _ e=>e))
theorem JaB(h:PAt w rb s L k)(q:BA)(D:q∈kws\/Jgr q)(M:q.data.toList≠(⟨#[101,110,100]⟩:BA).data.toList)(J:q.data.toList≠(⟨#[110,111,110,101]⟩:BA).data.toList):Calls prog 173 #[.pointer (some ⟨rb,0,none⟩),.string q] w fun e w'=>PRet (fun _ v=>v= .tuple #[]) w rb s L (Jai L q k (-1)) (Jab L q k (-1)) e w':=by
 cases d:isM L q k (-1)
 .rw[(JaO d).1,(JaO d).2];refine(Jg8 hE h q D d).mono ?_
  intro e w' ht;exact PRet.thr (ThrX.of ht) (Jha (by omega)) (by omega)
 .rw[(Jaw d).1,(Jaw d).2];have G:=Jar hE.good h.lt d M J
  by_cases E:(tkAt L (k+1)).is=⟨#[110,111,110,101]⟩
  .refine(Jeb hE h q D G d E).mono ?_
   intro e w' ht;exact PRet.thr (ThrX.of ht) (Jef (by omega) E) (by omega)
  .refine(Jf5 hE h q D G d E).mono ?_
   rintro e w' ⟨rfl,O,I⟩;exact PRet.ret rfl I (Kq.of_kp O (fun _ e=>e))
end
def Jad:List BA:= [⟨#[102,117,110]⟩,⟨#[108,101,116]⟩,⟨#[114,101,99]⟩,⟨#[97,110,100]⟩,⟨#[105,110]⟩,⟨#[105,102]⟩,⟨#[116,104,101,110]⟩,⟨#[101,108,115,101]⟩]
theorem Jc6:KwOk Jad:=by
 refine⟨fun w d=> ?_,fun w d=> ?_⟩
 .simp only[Jad,VaW,Vbr,VcA]at d
  rcases d with rfl|rfl|rfl|rfl|rfl|rfl|rfl|rfl<;>exact⟨Jac (by decide),Jac (by decide),Jac (by decide),Jac (by decide)⟩
 .simp only[Jad,VaW,Vbr,VcA]at d
  rcases d with rfl|rfl|rfl|rfl|rfl|rfl|rfl|rfl<;>decide
variable {a b:BA}
theorem Ja9(h:a≠b):Jag a b=false:=by
 rw[Vbm];intro e;exact h ((Jaf a b).1 e)
variable {t:BA}
theorem Joq(h:lowI (chr t 0)=true\/figI (chr t 0)=true):Wd t:=by
 have ne:∀q:BA,lowI (chr q 0)=false->figI (chr q 0)=false->Jag t q=false:=fun q d D=>Ja9 (fun e=>by
  rw[e,d,D]at h
  rcases h with h|h<;>cases h)
 exact⟨by unfold opn;rw[ne _ (by decide) (by decide),ne _ (by decide) (by decide)];rfl,by unfold cls;rw[ne _ (by decide) (by decide),ne _ (by decide) (by decide)];rfl⟩
variable {kd0:Nat}
theorem JdP{s:BA}{kws:List BA}{L:List Tk}(hE:PEnv s kws L){k:Nat}(I:k<L.length)(h:pTok s (tkAt L k).loc=some (kd0,(tkAt L k).s,(tkAt L k).loc+(tkAt L k).s.size)):
  (((kd0==1)&& !kwIn kws (tkAt L k).s)=Jag (tkAt L k).is ⟨#[110,97,109,101]⟩)/\((kd0==2)=Jag (tkAt L k).is ⟨#[110,117,109]⟩)/\((tkAt L k).is=⟨#[110,97,109,101]⟩\/(tkAt L k).is=⟨#[110,117,109]⟩->Wd (tkAt L k).s):=by
 have l:=(Jbw hE.kw hE.eq k I)
 have T:=l.1;have l:=l.2;generalize tkAt L k=t at*
 cases l with
 |fin a b c d e=>
  rw[d]at h;simp only[Vaa,Vaf]at h;rw[<-h.1,b];refine⟨by rw[Ja9 (Jac (by decide))];rfl,by rw[Ja9 (Jac (by decide))];rfl,fun q=> ?_⟩
  rcases q with q|q<;>exact absurd q (Jac (by decide))
 |bad a b=>rw[b]at h;cases h
 |word a b c d=>
  have M:=c;rw[c]at h;simp only[Vaa,Vaf]at h;rw[<-h.1,d];unfold pTok at c;rw[Vat a,Vat b]at c
  split at c
  .simp only[Vaa,Vaf]at c;obtain⟨_,c2,J⟩:=c;have D:Wd t.s:=Joq (.inl (by rw[<-c2,JbP s _ _ (Jdq lfI s _ a (by simp[lfI,b])) (Jbi lfI s _ (by omega)),b]))
   by_cases q:kwIn kws t.s=true
   .rw[q,Vat rfl];have G:=hE.kw.ne _ (JbB q);exact⟨by rw[Ja9 G.1];rfl,by rw[Ja9 G.2.2.2];rfl,fun _=>D⟩
   .have q:kwIn kws t.s=false:=by simpa using q
    rw[q,Vaq (by simp)];exact⟨by rw[(Jaf _ _).2 rfl];rfl,by rw[Ja9 (Jac (by decide))];rfl,fun _=>D⟩
  .cases c
 |num a b c d e=>
  have O:=d;rw[d]at h;simp only[Vaa,Vaf]at h;rw[<-h.1,e];unfold pTok at d;rw[Vat a,Vaq (by simp[b]),Vat c]at d
  split at d
  .simp only[Vaa,Vaf]at d;obtain⟨_,c2,J⟩:=d;have D:Wd t.s:=Joq (.inr (by rw[<-c2,JbP s _ _ (Jdq figI s _ a c) (Jbi figI s _ (by omega)),c]));exact⟨by rw[Ja9 (Jac (by decide))];rfl,by rw[(Jaf _ _).2 rfl];rfl,fun _=>D⟩
  .cases d
 |sign a b c d e f=>
  rw[d]at h;simp only[Vaa,Vaf]at h
  have E:t.is≠⟨#[110,97,109,101]⟩/\t.is≠⟨#[110,117,109]⟩:=by
   rw[e]
   rcases f with f|⟨_,f,_⟩
   .rw[f];exact⟨Jac (by decide),Jac (by decide)⟩
   .rw[f];refine⟨fun q=> ?_,fun q=> ?_⟩
    .have q:=VbH (fun x=>x.size) q;have q:(1:Nat)=4:=q;omega
    .have q:=VbH (fun x=>x.size) q;have q:(1:Nat)=3:=q;omega
  rw[<-h.1];exact⟨by rw[Ja9 E.1];rfl,by rw[Ja9 E.2];rfl,fun q=>by rcases q with q|q;exact absurd q E.1;exact absurd q E.2⟩
theorem JcQ{L:List Tk}{k:Nat}:isM L q k (-1)=Jag (tkAt L k).is q:=by
 unfold isM Jag;rfl
theorem Jom{s:BA}{kws:List BA}{L:List Tk}(hE:PEnv s kws L){k:Nat}(D:k<L.length)(h:pTok s (tkAt L k).loc=some (kd0,(tkAt L k).s,(tkAt L k).loc+(tkAt L k).s.size)):(kd0==0)=Jag (tkAt L k).is ⟨#[101,110,100]⟩:=by
 have l:=(Jbw hE.kw hE.eq k D).2;generalize tkAt L k=t at*
 cases l with
 |fin a b c d e=>
  rw[d]at h;simp only[Vaa,Vaf]at h;rw[<-h.1,b,(Jaf _ _).2 rfl];rfl
 |bad a b=>rw[b]at h;cases h
 |word a b c d=>
  rw[c]at h;simp only[Vaa,Vaf]at h;rw[<-h.1,d]
  split
  .rename_i q;rw[Ja9 (hE.kw.ne _ (JbB q)).2.2.1];rfl
  .rw[Ja9 (Jac (by decide))];rfl
 |num a b c d e=>
  rw[d]at h;simp only[Vaa,Vaf]at h;rw[<-h.1,e,Ja9 (Jac (by decide))];rfl
 |sign a b c d e f=>
  rw[d]at h;simp only[Vaa,Vaf]at h
  have E:t.is≠⟨#[101,110,100]⟩:=by
   rw[e]
   rcases f with f|⟨_,f,_⟩
   .rw[f];exact Jac (by decide)
   .rw[f];intro q;have q:=VbH (fun x=>x.size) q;have q:(1:Nat)=3:=q;omega
  rw[<-h.1,Ja9 E];rfl
theorem JgJ(R:TypeId->Value->World->Prop)(s:BA)(w:World)
 (HN:Hid (Calls prog 96 #[.string s] ((w.alloc (.cells #[.nilIface] 156)).alloc (.cells #[.nilIface] 72)) fun e w'=>∃T z,e=thrown (.iface T z)/\R T z w'/\Kept ((w.alloc (.cells #[.nilIface] 156)).alloc (.cells #[.nilIface] 72)) w')):
  Calls prog 80 #[.string s] w fun e w'=>∃T z d,e= .returned (.tuple #[.nilIface,.iface T z])/\R T z d/\Kept w w'/\∀k o,w.heap.size+2<=k->d.heap[k]? =some o->w'.heap[k]? =some o:=by
 have L:Kept w ((w.alloc (.cells #[.nilIface] 156)).alloc (.cells #[.nilIface] 72)):=(Vet _ _).trans (Vet _ _);have aa:((w.alloc (.cells #[.nilIface] 156)).alloc (.cells #[.nilIface] 72)).heap[w.heap.size]? =some (.cells #[.nilIface] 156 (0,0)):=(Vet _ _).blk (Vag _ _)
 have W:((w.alloc (.cells #[.nilIface] 156)).alloc (.cells #[.nilIface] 72)).heap[w.heap.size+1]? =some (.cells #[.nilIface] 72 (0,0)):=by
  have:=Vag (w.alloc (.cells #[.nilIface] 156)) (.cells #[.nilIface] 72);simpa using this
 go_enter_defers func80,ntmps80
 go_wp2_with fail
 refine Vac HN.out ?_
 rintro e d ⟨T,z,rfl,hR,G⟩;have I:=G.blk aa;have J:=G.blk W;refine VbE (f:=108) (args:= #[.pointer (some ⟨w.heap.size,0,none⟩),.pointer (some ⟨w.heap.size+1,0,none⟩)]) (by simp) (by simp[go_sem]) ?_
 refine(JaT ⟨w.heap.size,0,none⟩ ⟨w.heap.size+1,0,none⟩ .nilIface .nilIface T z [] d ?_ ?_ ?_ ?_ ?_).mono ?_
 .simp[Veu,I]
 .simp[Vev,I]
 .simp[Veu,J]
 .simp[Vev,J]
 .simp
 rintro e u' E ⟨rfl,rfl,h⟩
 have U:Kept w E:=by
  have D:Kept w (d.alloc (.cells #[.iface T z] 250)):=(L.trans G).trans (Vet _ _);rw[h];exact⟨D.1,D.2,by simpa using D.3,fun q O=>(Vaj _ _ _ q (by intro z;simp at z;omega)).trans ((Vaj _ _ _ q (by intro z;simp at z;omega)).trans (D.4 q O))⟩
 have V:(d.alloc (.cells #[.iface T z] 250)).cell? ⟨w.heap.size,0,none⟩=some .nilIface:=by simp[Veu,(Vet d (.cells #[.iface T z] 250)).blk I]
 have ac:(d.alloc (.cells #[.iface T z] 250)).cell? ⟨w.heap.size+1,0,none⟩=some .nilIface:=by simp[Veu,(Vet d (.cells #[.iface T z] 250)).blk J]
 have cp:E.cell? ⟨w.heap.size,0,none⟩=some .nilIface:=by
  rw[h,Vax _ _ _ _ (by simp)];exact VaD _ _ _ V
 have Z:E.cell? ⟨w.heap.size+1,0,none⟩=some (.iface T z):=by
  rw[h];refine VaD _ _ _ (u:= .nilIface) ?_
  rw[Vax _ _ _ _ (by simp)];exact ac
 have M:∀k o,w.heap.size+2<=k->d.heap[k]? =some o->E.heap[k]? =some o:=by
  intro k o hk Y;rw[h];exact(Vaj _ _ _ k (by intro z;simp at z;omega)).trans ((Vaj _ _ _ k (by intro z;simp at z;omega)).trans ((Vet d _).blk Y))
 clear h;simp[Leaves,settle,results,Vdd,go_sem,cp,Z];exact⟨T,z,⟨rfl,rfl⟩,d,hR,U,M⟩
def Jas:List BA:= [⟨#[105,110,116]⟩,⟨#[98,111,111,108]⟩]
theorem JcH:KwOk Jas:=by
 refine⟨fun w d=> ?_,fun w d=> ?_⟩
 .simp only[Jas,VaW,Vbr,VcA]at d
  rcases d with rfl|rfl<;>exact⟨Jac (by decide),Jac (by decide),Jac (by decide),Jac (by decide)⟩
 .simp only[Jas,VaW,Vbr,VcA]at d
  rcases d with rfl|rfl<;>decide
theorem Jkh{s:BA}{L:List Tk}(hE:PEnv s Jas L):0<L.length/\(tkAt L 0).loc=run blI s 0:=by
 have E:∀w,w∈Jas->w≠⟨#[110,97,109,101]⟩:=fun w D=>(JcH.ne w D).1
 have d:0<L.length:=by rw[hE.eq];exact JfX s Jas
 refine⟨d,?_⟩
 have h:=(JbO s Jas E (s.size+1) 0 (VaN _) 0 (by rw[<-hE.eq];exact d)).1 rfl;rw[<-hE.eq]at h;rw[h];rfl
theorem Ibj(w:World):(Instr.makeMap 208 none).run prog w= .ok (.map (some w.heap.size)) (w.alloc (.map #[] 0)):=by kernel_rfl
theorem JpH{s:BA}{L:List Tk}(hE:PEnv s Jas L)(w:World)(hG:Glb A w)(n:Nat)(t:Ty)(names:List BA)(K:Nat)(B:Int)(hM:Jaq L n [] 0 (-1)=some (t,names,K,B))(h0:(tkAt L 0).is≠⟨#[110,111,110,101]⟩)(R:Ending->World->Prop)
 (aM:∀(b l:Nat) (w':World),Kept w w'->Jab L ⟨#[101,110,100]⟩ K B=l->w'.heap[b]? =some (.cells #[.int .i64 l] 145 (0,0))->R (.returned (.tuple #[.nilIface,.iface 134 (.pointer (some ⟨b,0,none⟩))])) w')
 (a6:∀w':World,Kept w w'->Jab L ⟨#[101,110,100]⟩ K B<0->120<sz t->R (.returned (.tuple #[.nilIface,.iface 407 (.pointer (some (A 4)))])) w')
 (aO:∀(v:Value) (vb:List Nat) (w':World),Kept w w'->Jab L ⟨#[101,110,100]⟩ K B<0->sz t<=120->PTyR w' vb w.heap.size w'.heap.size t v->(∀c,c∈vb->VBlk w' c/\w.heap.size<=c)->vb.Nodup->NB w' vb names->R (.returned (.tuple #[v,.nilIface])) w'):
  Calls prog 80 #[.string s] w R:=by
 have bk:Kept w ((w.alloc (.cells #[.nilIface] 156)).alloc (.cells #[.nilIface] 72)):=(Vet _ _).trans (Vet _ _);have a4:((w.alloc (.cells #[.nilIface] 156)).alloc (.cells #[.nilIface] 72)).heap[w.heap.size]? =some (.cells #[.nilIface] 156 (0,0)):=(Vet _ _).blk (Vag _ _)
 have aS:((w.alloc (.cells #[.nilIface] 156)).alloc (.cells #[.nilIface] 72)).heap[w.heap.size+1]? =some (.cells #[.nilIface] 72 (0,0)):=by
  have:=Vag (w.alloc (.cells #[.nilIface] 156)) (.cells #[.nilIface] 72);simpa using this
 have aX:((w.alloc (.cells #[.nilIface] 156)).alloc (.cells #[.nilIface] 72)).heap.size=w.heap.size+2:=by simp
 obtain⟨aL,aw⟩:=Jkh hE;obtain⟨kd,hT⟩:=JiC hE.kw hE.eq 0 aL h0;rw[aw]at hT;have HN:Hid _:=JgH s ((w.alloc (.cells #[.nilIface] 156)).alloc (.cells #[.nilIface] 72)) hE.sz kd _ _ hT;have HT:Hid _:=hT;have bn:Hid _:=(JkW s Jas L hE rfl n).1;have HM:Hid _:=hM;have HG:Hid _:=hG;have aZ:Hid _:=aM;have a9:Hid _:=a6;have bi:Hid _:=aO;clear hM hG hT aM a6 aO;generalize hW:((w.alloc (.cells #[.nilIface] 156)).alloc (.cells #[.nilIface] 72))=bu at*
 go_enter_defers func80,ntmps80
 go_wp2_with fail
 refine Vac HN.out ?_
 rintro e E ⟨rfl,aB,aI⟩;have m2:=Ibj E;have aW:=aB.blk a4;have aU:=aB.blk aS;rw[aX]at aI;have PA:PAt E (w.heap.size+2) s L 0:=⟨⟨kd,by rw[aw];exact aI,by rw[aw];exact HT.out⟩,aL,h0⟩
 have aQ:Kept E (E.alloc (.map #[] 0)):=Vet _ _;have ax:Kept (E.alloc (.map #[] 0)) ((E.alloc (.map #[] 0)).alloc (.cells #[.pointer (some ⟨w.heap.size+2,0,none⟩),.map (some E.heap.size)] 210)):=Vet _ _;have a0:((E.alloc (.map #[] 0)).alloc (.cells #[.pointer (some ⟨w.heap.size+2,0,none⟩),.map (some E.heap.size)] 210)).heap[E.heap.size]? =some (.map #[] 0):=ax.blk (Vag _ _)
 have ai:((E.alloc (.map #[] 0)).alloc (.cells #[.pointer (some ⟨w.heap.size+2,0,none⟩),.map (some E.heap.size)] 210)).heap[E.heap.size+1]? =some (.cells #[.pointer (some ⟨w.heap.size+2,0,none⟩),.map (some E.heap.size)] 210 (0,0)):=by
  have:=Vag (E.alloc (.map #[] 0)) (.cells #[.pointer (some ⟨w.heap.size+2,0,none⟩),.map (some E.heap.size)] 210);simpa using this
 have av:=aQ.trans ax;have Y:=av.blk aW;have Z:=av.blk aU;have bw:w.heap.size+2<E.heap.size:=PA.lt';have aa:=(bk.trans aB).trans av;have bj:=PA.kept av;clear HN aI PA aQ ax;rw[aX]
 go_wp2_with fail
 generalize bE:((E.alloc (.map #[] 0)).alloc (.cells #[.pointer (some ⟨w.heap.size+2,0,none⟩),.map (some E.heap.size)] 210))=w3 at*;have aV:VM w3 E.heap.size [] []:=⟨rfl,by simpa[vEs]using a0,fun j hj=>by simp at hj⟩
 have a3:w3.cell? ⟨E.heap.size+1,0,none⟩=some (.pointer (some ⟨w.heap.size+2,0,none⟩)):=by simp[Veu,ai]
 have HX:Hid _:=bn.out w3 (w.heap.size+2) E.heap.size 0 [] [] t names K B bj aV (NmOk.nil L) (by omega) HM.out;have br:=((Jcj L hE.good n).1 _ _ _ _ _ _ _ HM.out aL (NmOk.nil L))
 refine Vac HX.out ?_
 intro e h au;clear HX
 by_cases hz:0<=bz L K B
 .have bh:0<=B\/(tkAt L K).is=⟨#[110,111,110,101]⟩:=by
   by_cases hb:0<=B
   .exact .inl hb
   .by_cases hn:(tkAt L K).is=⟨#[110,111,110,101]⟩
    .exact .inr hn
    .rw[JlT (by omega) hn]at hz;omega
  obtain⟨l,hl,b,M,aK,hb,kq⟩:=au.thrown bh
  have bb:bz L K B=l:=by
   rcases hl with O|⟨O,h2,h3⟩
   .rw[O];exact Jha (by omega)
   .rw[Jef O h2,h3]
  have hn:Jab L ⟨#[101,110,100]⟩ K B=l:=(JcA hz (by decide)).2.trans bb;have I:=(kq.block _ (Vah Y) (by show¬_;omega)).trans Y;have D:=(kq.block _ (Vah Z) (by show¬_;omega)).trans Z;have U:Kept w h:=⟨kq.os.trans aa.os,kq.output.trans aa.output,Vas aa.size kq.size,fun q O=>(kq.block q (Va6 O aa.size) (by show¬_;omega)).trans (aa.block q O)⟩
  have az:w.heap.size+2<=b:=by have:=Vah ai;omega
  rw[M];clear M au kq Y Z;refine VbE (f:=108) (args:= #[.pointer (some ⟨w.heap.size,0,none⟩),.pointer (some ⟨w.heap.size+1,0,none⟩)]) (by simp) (by simp[go_sem]) ?_
  refine(JaT ⟨w.heap.size,0,none⟩ ⟨w.heap.size+1,0,none⟩ .nilIface .nilIface 134 (.pointer (some ⟨b,0,none⟩)) [] h ?_ ?_ ?_ ?_ ?_).mono ?_
  .simp[Veu,I]
  .simp[Vev,I]
  .simp[Veu,D]
  .simp[Vev,D]
  .simp
  rintro e u' V ⟨rfl,rfl,G⟩
  have hK:Kept w V:=by
   have W:Kept w (h.alloc (.cells #[.iface 134 (.pointer (some ⟨b,0,none⟩))] 250)):=U.trans (Vet _ _);rw[G];exact⟨W.1,W.2,by simpa using W.3,fun q D=>(Vaj _ _ _ q (by intro z;simp at z;omega)).trans ((Vaj _ _ _ q (by intro z;simp at z;omega)).trans (W.4 q D))⟩
  have Y:(h.alloc (.cells #[.iface 134 (.pointer (some ⟨b,0,none⟩))] 250)).cell? ⟨w.heap.size,0,none⟩=some .nilIface:=by simp[Veu,(Vet h (.cells #[.iface 134 (.pointer (some ⟨b,0,none⟩))] 250)).blk I]
  have Z:(h.alloc (.cells #[.iface 134 (.pointer (some ⟨b,0,none⟩))] 250)).cell? ⟨w.heap.size+1,0,none⟩=some .nilIface:=by simp[Veu,(Vet h (.cells #[.iface 134 (.pointer (some ⟨b,0,none⟩))] 250)).blk D]
  have cp:V.cell? ⟨w.heap.size,0,none⟩=some .nilIface:=by
   rw[G,Vax _ _ _ _ (by simp)];exact VaD _ _ _ Y
  have cq:V.cell? ⟨w.heap.size+1,0,none⟩=some (.iface 134 (.pointer (some ⟨b,0,none⟩))):=by
   rw[G];refine VaD _ _ _ (u:= .nilIface) ?_
   rw[Vax _ _ _ _ (by simp)];exact Z
  have hX:∀k o,w.heap.size+2<=k->h.heap[k]? =some o->V.heap[k]? =some o:=by
   intro k o J ho;rw[G];exact(Vaj _ _ _ k (by intro z;simp at z;omega)).trans ((Vaj _ _ _ k (by intro z;simp at z;omega)).trans ((Vet h _).blk ho))
  clear G;have ae:Hid _:=aZ.out b l _ hK hn (hX b _ az aK);simp[Leaves,settle,results,Vdd,go_sem,cp,cq];exact ae.out
 obtain⟨hB,bs⟩:=JqC (show bz L K B<0 by omega);obtain⟨v,vb,M,hv,aj⟩:=au.1 hB bs;clear hz au;subst M;have kq:=aj.kp;have P4:=aj.at';have V4:=aj.vm;have I:=(kq.block _ (Vah Y) (by show¬_;omega)).trans Y;have D:=(kq.block _ (Vah Z) (by show¬_;omega)).trans Z;have aT:=(kq.block _ (Vah ai) (by show¬_;omega)).trans ai;have U:Kept w h:=⟨kq.os.trans aa.os,kq.output.trans aa.output,Vas aa.size kq.size,fun q O=>(kq.block q (Va6 O aa.size) (by show¬_;omega)).trans (aa.block q O)⟩
 obtain⟨T,u,rfl⟩:=hv.iface;have a2:=V4.vblk;have aE:NB h vb names:=⟨V4.len,V4.vr⟩
 have bp:=V4.nodup br.2.nd
 have a1:∀c,c∈vb->w.heap.size<=c:=fun c hc=>by
  obtain⟨u',e1,e2⟩:=aj.pre;rw[e1]at hc;exact Vas aa.size (e2 c (by simpa using hc))
 have be:Hid _:=a1;have bB:h.cell? ⟨w.heap.size,0,none⟩=some .nilIface:=by simp[Veu,I]
 have bv:h.frozen? ⟨w.heap.size,0,none⟩=false:=by simp[Vev,I]
 have af:∀b,b≠w.heap.size->(h.setCell ⟨w.heap.size,0,none⟩ (.iface T u)).heap[b]? =h.heap[b]? :=fun b hb=>Vaj _ _ _ b (by intro z;simp at z;omega)
 have aH:(h.setCell ⟨w.heap.size,0,none⟩ (.iface T u)).heap[w.heap.size]? =some (.cells #[.iface T u] 156 (0,0)):=by simp[Vew,I,Vay]
 have a7:=(af (w.heap.size+1) (by omega)).trans D;have bf:=(af (E.heap.size+1) (by omega)).trans aT
 have P5:PAt (h.setCell ⟨w.heap.size,0,none⟩ (.iface T u)) (w.heap.size+2) s L K:=by
  obtain⟨kd,e1,e2⟩:=P4.ex;exact⟨⟨kd,(af _ (by omega)).trans e1,e2⟩,P4.lt,P4.nn⟩
 have ak:∀(k:Nat) (cs:Array Value) (e:TypeId) (f:Nat×Nat),e≠156->h.heap[k]? =some (.cells cs e f)->(h.setCell ⟨w.heap.size,0,none⟩ (.iface T u)).heap[k]? =some (.cells cs e f):=fun k cs e f M J=>(af k (fun z=>by
  rw[z,I]at J;simp only[Vaa,VaT]at J;exact M J.2.1.symm)).trans J
 have X5:PTyR (h.setCell ⟨w.heap.size,0,none⟩ (.iface T u)) vb w.heap.size (h.setCell ⟨w.heap.size,0,none⟩ (.iface T u)).heap.size t (.iface T u):=(hv.keep (fun k cs e f M J=>ak k cs e f (by rcases M with rfl|rfl|rfl<;>decide) J)).wide aa.size (by simp)
 have ay:∀c,c∈vb->VBlk (h.setCell ⟨w.heap.size,0,none⟩ (.iface T u)) c:=fun c hc=>by
  obtain⟨nm,O⟩:=a2 c hc;exact⟨nm,ak c _ _ _ (by decide) O⟩
 have aJ:NB (h.setCell ⟨w.heap.size,0,none⟩ (.iface T u)) vb names:=⟨aE.1,fun j hj=>ak _ _ _ _ (by decide) (aE.2 j hj)⟩
 have aF:Kept w (h.setCell ⟨w.heap.size,0,none⟩ (.iface T u)):=⟨U.1,U.2,by simpa using U.3,fun q O=>(af q (by omega)).trans (U.4 q O)⟩
 have bD:w.heap.size+2<=(h.setCell ⟨w.heap.size,0,none⟩ (.iface T u)).heap.size:=by have:=Vah D;simp;omega
 clear I D aT P4 hv U ai af a1 Y Z aW aU a4 aS aj V4 a2 aE aV a0 kq ak;generalize bC:h.setCell ⟨w.heap.size,0,none⟩ (.iface T u)=w5 at*;have a5:w5.cell? ⟨E.heap.size+1,0,none⟩=some (.pointer (some ⟨w.heap.size+2,0,none⟩)):=by simp[Veu,bf]
 have bF:w5.cell? ⟨w.heap.size,0,none⟩=some (.iface T u):=by simp[Veu,aH]
 obtain⟨aD,an,aG⟩:=P5.ex;have ao:=Jom hE P5.lt aG;have ba:B= -1:=((Jb7 L n).1 _ _ _ _ _ _ _ HM.out).2 hB;subst ba
 by_cases ag:aD=0
 .have al:isM L ⟨#[101,110,100]⟩ K (-1)=true:=by rw[JcQ,<-ao,ag];rfl
  have aP:Jab L ⟨#[101,110,100]⟩ K (-1)<0:=by rw[(Jaw al).2];omega
  have ah:Hid _:=Jez w5 (w.heap.size+2) s _ aD _ an ag;have c4:=(HG.out.kept aF).c4;clear an aG ao ag
  go_wp2_with fail
  refine Vac ah.out ?_
  rintro e w' ⟨rfl,G⟩;rw[G];clear G w' ah;have aR:Hid _:=JlK X5.ty ay
  go_wp2_with fail
  refine Vac aR.out ?_
  rintro e d ⟨rfl,ac⟩;have d1:=ac.cell c4;have I:=ac.blk aH;have D:=ac.blk a7;have bc:d.cell? ⟨w.heap.size,0,none⟩=some (.iface T u):=by simp[Veu,I]
  have bx:d.frozen? ⟨w.heap.size,0,none⟩=false:=by simp[Vev,I]
  have bg:d.cell? ⟨w.heap.size+1,0,none⟩=some .nilIface:=by simp[Veu,D]
  have bA:d.frozen? ⟨w.heap.size+1,0,none⟩=false:=by simp[Vev,D]
  have U:Kept w d:=aF.trans ac;have X6:=X5.keep (PKeep.kept ac);have a8:∀c,c∈vb->VBlk d c:=fun c hc=>(ay c hc).kept ac
  have aC:NB d vb names:=⟨aJ.1,fun j hj=>ac.blk (aJ.2 j hj)⟩
  clear aR
  by_cases hd:120<sz t
  .have am:decide (120<sz t)=true:=by simp[hd]
   rw[am]
   go_wp2_with (go_at_call 99;refine Vac (Jbl _ _) ?_;rintro e w' ⟨M,G⟩;rw[G,M];clear G M w' e)
   refine VbE (f:=108) (args:= #[.pointer (some ⟨w.heap.size,0,none⟩),.pointer (some ⟨w.heap.size+1,0,none⟩)]) (by simp) (by simp[go_sem]) ?_
   refine(JaT ⟨w.heap.size,0,none⟩ ⟨w.heap.size+1,0,none⟩ (.iface T u) .nilIface 407 (.pointer (some (A 4))) [] d ?_ ?_ ?_ ?_ ?_).mono ?_
   .simp[Veu,I]
   .simp[Vev,I]
   .simp[Veu,D]
   .simp[Vev,D]
   .simp
   rintro e u' V ⟨rfl,rfl,G⟩
   have hK:Kept w V:=by
    have W:Kept w (d.alloc (.cells #[.iface 407 (.pointer (some (A 4)))] 250)):=U.trans (Vet _ _);rw[G];exact⟨W.1,W.2,by simpa using W.3,fun q D=>(Vaj _ _ _ q (by intro z;simp at z;omega)).trans ((Vaj _ _ _ q (by intro z;simp at z;omega)).trans (W.4 q D))⟩
   have Y:(d.alloc (.cells #[.iface 407 (.pointer (some (A 4)))] 250)).cell? ⟨w.heap.size,0,none⟩=some (.iface T u):=by simp[Veu,(Vet d (.cells #[.iface 407 (.pointer (some (A 4)))] 250)).blk I]
   have Z:(d.alloc (.cells #[.iface 407 (.pointer (some (A 4)))] 250)).cell? ⟨w.heap.size+1,0,none⟩=some .nilIface:=by simp[Veu,(Vet d (.cells #[.iface 407 (.pointer (some (A 4)))] 250)).blk D]
   have cp:V.cell? ⟨w.heap.size,0,none⟩=some .nilIface:=by
    rw[G,Vax _ _ _ _ (by simp)];exact VaD _ _ _ Y
   have cq:V.cell? ⟨w.heap.size+1,0,none⟩=some (.iface 407 (.pointer (some (A 4)))):=by
    rw[G];refine VaD _ _ _ (u:= .nilIface) ?_
    rw[Vax _ _ _ _ (by simp)];exact Z
   have hX:∀k o,w.heap.size+2<=k->d.heap[k]? =some o->V.heap[k]? =some o:=by
    intro k o J ho;rw[G];exact(Vaj _ _ _ k (by intro z;simp at z;omega)).trans ((Vaj _ _ _ k (by intro z;simp at z;omega)).trans ((Vet d _).blk ho))
   clear G;have ae:Hid _:=a9.out _ hK aP hd;simp[Leaves,settle,results,Vdd,go_sem,cp,cq];exact ae.out
  .have am:decide (120<sz t)=false:=by simp[hd]
   rw[am];have aA:∀b,b≠w.heap.size->b≠w.heap.size+1->((d.setCell ⟨w.heap.size,0,none⟩ (.iface T u)).setCell ⟨w.heap.size+1,0,none⟩ .nilIface).heap[b]? =d.heap[b]? :=fun b O h2=>(Vaj _ _ _ b (by intro z;simp at z;omega)).trans (Vaj _ _ _ b (by intro z;simp at z;omega))
   have cp:((d.setCell ⟨w.heap.size,0,none⟩ (.iface T u)).setCell ⟨w.heap.size+1,0,none⟩ .nilIface).cell? ⟨w.heap.size,0,none⟩=some (.iface T u):=by
    rw[Vax _ _ _ _ (by simp)];exact VaD _ _ _ bc
   have cq:((d.setCell ⟨w.heap.size,0,none⟩ (.iface T u)).setCell ⟨w.heap.size+1,0,none⟩ .nilIface).cell? ⟨w.heap.size+1,0,none⟩=some .nilIface:=by
    refine VaD _ _ _ (u:= .nilIface) ?_
    rw[Vax _ _ _ _ (by simp)];exact bg
   have aq:∀(k:Nat) (cs:Array Value) (e:TypeId) (f:Nat×Nat),e≠156->e≠72->d.heap[k]? =some (.cells cs e f)->((d.setCell ⟨w.heap.size,0,none⟩ (.iface T u)).setCell ⟨w.heap.size+1,0,none⟩ .nilIface).heap[k]? =some (.cells cs e f):=fun k cs e f M bm J=>(aA k (fun z=>by
    rw[z,I]at J;simp only[Vaa,VaT]at J;exact M J.2.1.symm) (fun z=>by
    rw[z,D]at J;simp only[Vaa,VaT]at J;exact bm J.2.1.symm)).trans J
   have hK:Kept w ((d.setCell ⟨w.heap.size,0,none⟩ (.iface T u)).setCell ⟨w.heap.size+1,0,none⟩ .nilIface):=⟨U.1,U.2,by simpa using U.3,fun q O=>(aA q (by omega) (by omega)).trans (U.4 q O)⟩
   have XF:PTyR ((d.setCell ⟨w.heap.size,0,none⟩ (.iface T u)).setCell ⟨w.heap.size+1,0,none⟩ .nilIface) vb w.heap.size ((d.setCell ⟨w.heap.size,0,none⟩ (.iface T u)).setCell ⟨w.heap.size+1,0,none⟩ .nilIface).heap.size t (.iface T u):=(X6.keep (fun k cs e f M J=>aq k cs e f (by rcases M with rfl|rfl|rfl<;>decide) (by rcases M with rfl|rfl|rfl<;>decide) J)).wide (Vau _) (by simp;exact ac.size)
   have aY:∀c,c∈vb->VBlk ((d.setCell ⟨w.heap.size,0,none⟩ (.iface T u)).setCell ⟨w.heap.size+1,0,none⟩ .nilIface) c:=fun c hc=>by
    obtain⟨nm,O⟩:=a8 c hc;exact⟨nm,aq c _ _ _ (by decide) (by decide) O⟩
   have aN:NB ((d.setCell ⟨w.heap.size,0,none⟩ (.iface T u)).setCell ⟨w.heap.size+1,0,none⟩ .nilIface) vb names:=⟨aC.1,fun j hj=>aq _ _ _ _ (by decide) (by decide) (aC.2 j hj)⟩
   have ae:Hid _:=bi.out (.iface T u) vb _ hK aP (by omega) XF (fun c hc=>⟨aY c hc,be.out c hc⟩) bp aN;clear aA XF X6 X5 hK aq aY a8 ay aN aC aJ am
   go_wp2_with fail
   refine VbE (f:=108) (args:= #[.pointer (some ⟨w.heap.size,0,none⟩),.pointer (some ⟨w.heap.size+1,0,none⟩)]) (by simp) (by simp[go_sem]) ?_
   refine(Jhc ⟨w.heap.size,0,none⟩ ⟨w.heap.size+1,0,none⟩ _).mono ?_
   rintro e u' V ⟨rfl,rfl,rfl⟩;simp[Leaves,settle,results,Vdd,go_sem,cp,cq];exact ae.out
 .have al:isM L ⟨#[101,110,100]⟩ K (-1)=false:=by
   rw[JcQ,<-ao];simp[ag]
  have hn:Jab L ⟨#[101,110,100]⟩ K (-1)=(tkAt L K).loc:=(JaO al).2;have ah:Hid _:=JeA w5 (w.heap.size+2) s _ aD _ an ag;clear an aG ao ag al
  go_wp2_with fail
  refine Vac ah.out ?_
  rintro e d ⟨b,M,aK,hb,ac⟩;have I:=ac.blk aH;have D:=ac.blk a7;have U:Kept w d:=aF.trans ac;have az:w.heap.size+2<=b:=by omega
  rw[M];clear M ah;refine VbE (f:=108) (args:= #[.pointer (some ⟨w.heap.size,0,none⟩),.pointer (some ⟨w.heap.size+1,0,none⟩)]) (by simp) (by simp[go_sem]) ?_
  refine(JaT ⟨w.heap.size,0,none⟩ ⟨w.heap.size+1,0,none⟩ (.iface T u) .nilIface 134 (.pointer (some ⟨b,0,none⟩)) [] d ?_ ?_ ?_ ?_ ?_).mono ?_
  .simp[Veu,I]
  .simp[Vev,I]
  .simp[Veu,D]
  .simp[Vev,D]
  .simp
  rintro e u' V ⟨rfl,rfl,G⟩
  have hK:Kept w V:=by
   have W:Kept w (d.alloc (.cells #[.iface 134 (.pointer (some ⟨b,0,none⟩))] 250)):=U.trans (Vet _ _);rw[G];exact⟨W.1,W.2,by simpa using W.3,fun q D=>(Vaj _ _ _ q (by intro z;simp at z;omega)).trans ((Vaj _ _ _ q (by intro z;simp at z;omega)).trans (W.4 q D))⟩
  have Y:(d.alloc (.cells #[.iface 134 (.pointer (some ⟨b,0,none⟩))] 250)).cell? ⟨w.heap.size,0,none⟩=some (.iface T u):=by simp[Veu,(Vet d (.cells #[.iface 134 (.pointer (some ⟨b,0,none⟩))] 250)).blk I]
  have Z:(d.alloc (.cells #[.iface 134 (.pointer (some ⟨b,0,none⟩))] 250)).cell? ⟨w.heap.size+1,0,none⟩=some .nilIface:=by simp[Veu,(Vet d (.cells #[.iface 134 (.pointer (some ⟨b,0,none⟩))] 250)).blk D]
  have cp:V.cell? ⟨w.heap.size,0,none⟩=some .nilIface:=by
   rw[G,Vax _ _ _ _ (by simp)];exact VaD _ _ _ Y
  have cq:V.cell? ⟨w.heap.size+1,0,none⟩=some (.iface 134 (.pointer (some ⟨b,0,none⟩))):=by
   rw[G];refine VaD _ _ _ (u:= .nilIface) ?_
   rw[Vax _ _ _ _ (by simp)];exact Z
  have hX:∀k o,w.heap.size+2<=k->d.heap[k]? =some o->V.heap[k]? =some o:=by
   intro k o J ho;rw[G];exact(Vaj _ _ _ k (by intro z;simp at z;omega)).trans ((Vaj _ _ _ k (by intro z;simp at z;omega)).trans ((Vet d _).blk ho))
  clear G;have ae:Hid _:=aZ.out b _ _ hK hn (hX b _ az aK);simp[Leaves,settle,results,Vdd,go_sem,cp,cq];exact ae.out
def TPost(A:Nat->Addr)(w:World)(F:Int)(t:Ty)(names:List BA)(e:Ending)(w':World):Prop:=Kept w w'/\
 ((∃b l:Nat,F=l/\e= .returned (.tuple #[.nilIface,.iface 134 (.pointer (some ⟨b,0,none⟩))])/\w'.heap[b]? =some (.cells #[.int .i64 l] 145 (0,0)))\/
 (F<0/\120<sz t/\e= .returned (.tuple #[.nilIface,.iface 407 (.pointer (some (A 4)))]))\/
 (F<0/\sz t<=120/\∃v vb,e= .returned (.tuple #[v,.nilIface])/\PTyR w' vb w.heap.size w'.heap.size t v/\(∀c,c∈vb->VBlk w' c/\w.heap.size<=c)/\vb.Nodup/\NB w' vb names))
theorem tstk(L:List Tk)(n:Nat)(t:Ty)(names:List BA)(K:Nat)(B:Int)(d:Jaq L n [] 0 (-1)=some (t,names,K,B))(h:(tkAt L 0).is=⟨#[110,111,110,101]⟩):Jab L ⟨#[101,110,100]⟩ K B=(tkAt L 0).loc:=by
 have e:=(Jb8 L n [] 0 (-1) (by omega) h).2 _ _ _ _ d;rw[e];exact Ja5 (by omega)
theorem JeD{s:BA}{L:List Tk}(hE:PEnv s Jas L)(w:World)(hG:Glb A w)(n:Nat)(t:Ty)(names:List BA)(K:Nat)(B:Int)(M:Jaq L n [] 0 (-1)=some (t,names,K,B)):
  Calls prog 80 #[.string s] w (TPost A w (Jab L ⟨#[101,110,100]⟩ K B) t names):=by
 by_cases G:(tkAt L 0).is=⟨#[110,111,110,101]⟩
 .obtain⟨aa,J⟩:=Jkh hE;have O:=JfV hE.kw hE.eq 0 aa G;rw[J]at O;have E:Jab L ⟨#[101,110,100]⟩ K B=(run blI s 0:Nat):=by rw[tstk L n t names K B M G,J]
  have Z:Hid _:=(JgG s ((w.alloc (.cells #[.nilIface] 156)).alloc (.cells #[.nilIface] 72)) hE.sz O).mono (R':=fun e w'=>∃T z,e=thrown (.iface T z)/\(fun T z U=>∃b:Nat,T=134/\z= .pointer (some ⟨b,0,none⟩)/\U.heap[b]? =some (.cells #[.int .i64 (run blI s 0:Nat)] 145 (0,0))/\w.heap.size+2<=b) T z w'/\Kept ((w.alloc (.cells #[.nilIface] 156)).alloc (.cells #[.nilIface] 72)) w') (fun e w' ⟨b,D,h,h3,W⟩=>⟨_,_,D,⟨b,rfl,rfl,h,by simpa using h3⟩,W⟩);refine(JgJ _ s w Z).mono ?_
  rintro e w' ⟨T,z,U,rfl,⟨b,rfl,rfl,I,Y⟩,d,V⟩;exact⟨d,.inl ⟨b,_,E,rfl,V b _ Y I⟩⟩
 .exact JpH hE w hG n t names K B M G _ (fun b l w' d E I=>⟨d,.inl ⟨b,l,E,rfl,I⟩⟩) (fun w' d D h=>⟨d,.inr (.inl ⟨D,h,rfl⟩)⟩) (fun v vb w' d D h hx hv hi E=>⟨d,.inr (.inr ⟨D,h,v,vb,rfl,hx,hv,hi,E⟩)⟩)
theorem Jff(s:BA)(w:World)(L:Glb A w)(h:300<s.size)(d:s.size<=9223372036854775807):
  Calls prog 80 #[.string s] w fun e w'=>e= .returned (.tuple #[.nilIface,.iface 407 (.pointer (some (A 0)))])/\Kept w w':=by
 have E:Kept w ((w.alloc (.cells #[.nilIface] 156)).alloc (.cells #[.nilIface] 72)):=(Vet _ _).trans (Vet _ _);have I:Hid _:=(JgF s _ (L.kept E) h d).mono (R':=fun e w'=>∃T z,e=thrown (.iface T z)/\(fun T z _=>T=407/\z=Value.pointer (some (A 0))) T z w'/\Kept ((w.alloc (.cells #[.nilIface] 156)).alloc (.cells #[.nilIface] 72)) w') (fun e w' ⟨G,D⟩=>⟨_,_,G,⟨rfl,rfl⟩,D⟩);refine(JgJ (fun T z _=>T=407/\z=Value.pointer (some (A 0))) s w I).mono ?_
 rintro e w' ⟨T,z,M,rfl,⟨rfl,rfl⟩,J,_⟩;exact⟨rfl,J⟩
theorem Jeh(s:BA)(w:World)(R:TypeId->Value->World->Prop)(d:Hid (Calls prog 80 #[.string s] w fun e w'=>∃T z,e= .returned (.tuple #[.nilIface,.iface T z])/\Hid (R T z w'))):
  Calls prog 43 #[.string s] w fun e w'=>∃T z,e= .returned (.tuple #[.string ⟨#[]⟩,.iface T z])/\Hid (R T z w'):=by
 go_enter func43,ntmps43
 go_wp2_with fail
 refine Vac d.out ?_
 rintro e D ⟨T,z,rfl,h⟩;clear d
 go_wp2
 exact VaI (v:= .tuple #[.string ⟨#[]⟩,.iface T z]) (by simp[results,results43,go_sem]) rfl ⟨T,z,rfl,h⟩
variable {ad:List Nat}{S:Nat->Prop}
theorem Kt.keptFrom{w a b:World}(d:Kept w a)(h:Kt ad S a b)(E:∀q,q<w.heap.size->¬S q)(G:∀q,q∈ad->w.heap.size<=q):Kept w b:=⟨h.os.trans d.os,h.output.trans d.output,Vas d.size h.size,fun q D=>by
 have e:w.heap[q]? =some w.heap[q]:=by simp
 rw[e];exact h.blk0 q _ ((d.block q D).trans e) (E q D) (fun _ z=>by have:=G q z;omega)⟩
theorem JlU(s:BA)(w:World)(t:Ty)(hs:sz t<=120)(Z:Hid (Calls prog 80 #[.string s] w fun e w'=>∃v ad σ r,e= .returned (.tuple #[v,.nilIface])/\SX w' ad σ/\RV ad r v/\Dn σ r t/\(∀c,c∈ad->w.heap.size<=c)/\Kept w w')):
  Calls prog 43 #[.string s] w fun e w'=>e= .returned (.tuple #[.string (canT t),.nilIface])/\Kept w w':=by
 go_enter func43,ntmps43
 go_wp2_with fail
 refine Vac Z.out ?_
 rintro e J ⟨v,ad,σ,r,rfl,W,G,I,hA,L⟩;have T:Hid _:=Jiq J;have U:Hid (∀d h mb,d.heap[h]? =some (.cells #[.map (some mb)] 215 (0,0))->NM d mb []->Kp (fun _=>False) J d->Calls prog 81 #[v,.func (.func 113) #[] #[.pointer (some ⟨h,0,none⟩)]] d fun e w'=>e= .returned (.string (canT t))/\SX w' ad σ/\Kt ad (·=mb) d w'):=fun d h mb h1 h2 h3=>Jiz d h mb ad σ r t v (W.keep (fun _ _ _ ho=>h3.blk ho id)) G I (by omega) h1 (by have:=h2.mp;simpa[Jbt]using this)
 obtain⟨ae,u,rfl⟩:=G.iface;have E:Hid _:=L;clear Z W G I L
 go_wp2_with fail
 refine Vac T.out ?_
 rintro e d ⟨h,mb,rfl,V,O,D,ac⟩;have M:Hid _:=U.out d h mb V O D;clear T U V O
 go_wp2_with fail
 refine Vac M.out ?_
 rintro e w3 ⟨rfl,_,Y⟩
 have aa:Hid (Kept w w3):=Kt.keptFrom (E.out.trans (Kept.of0 D)) Y (fun q hq z=>by
  have z:q=mb:=z;have:=E.out.size;omega) hA
 clear M Y D E
 go_wp2
 exact VaI (v:= .tuple #[.string (canT t),.nilIface]) (by simp[results,results43,go_sem]) rfl ⟨rfl,aa.out⟩
theorem Jio(s:BA)(w:World)(R:BA->Int->Int->Prop)(O:Hid (Calls prog 43 #[.string s] (w.alloc (.cells #[.int .i64 0,.int .i64 0,.string ⟨#[]⟩,.int .i64 0,.int .i64 0] 23)) fun e w'=>∃t er what loc,e= .returned (.tuple #[.string t,er])/\Kept (w.alloc (.cells #[.int .i64 0,.int .i64 0,.string ⟨#[]⟩,.int .i64 0,.int .i64 0] 23)) w'/\Hid (Calls prog 37 #[er] w' fun e ac=>e= .returned (Jaa what loc ⟨#[]⟩)/\Kept w' ac)/\R t what loc)):
  Calls prog 18 #[.string s] w fun e w'=>∃t what loc,e= .returned (.tuple #[.string t,Jaa what loc ⟨#[]⟩])/\R t what loc/\Kept w w':=by
 have Y:Kept w (w.alloc (.cells #[.int .i64 0,.int .i64 0,.string ⟨#[]⟩,.int .i64 0,.int .i64 0] 23)):=Vet _ _;have aa:(w.alloc (.cells #[.int .i64 0,.int .i64 0,.string ⟨#[]⟩,.int .i64 0,.int .i64 0] 23)).heap[w.heap.size]? =some (.cells #[.int .i64 0,.int .i64 0,.string ⟨#[]⟩,.int .i64 0,.int .i64 0] 23 (0,0)):=Vag _ _
 go_enter func18,ntmps18
 go_wp2_with fail
 refine Vac O.out ?_
 rintro e w1 ⟨t,er,what,loc,rfl,J,L,M⟩;have ae:=J.blk aa;have HR:Hid _:=M;clear O M
 go_wp2_with fail
 refine Vac L.out ?_
 rintro e D ⟨rfl,I⟩;have h:=I.blk ae;have E:=(Y.trans J).trans I;clear L;have c0:D.cell? ⟨w.heap.size,0,none⟩=some (.int .i64 0):=by simp[Veu,h]
 have c1:D.cell? ⟨w.heap.size,1,none⟩=some (.int .i64 0):=by simp[Veu,h]
 have c2:D.cell? ⟨w.heap.size,2,none⟩=some (.string ⟨#[]⟩):=by simp[Veu,h]
 have c3:D.cell? ⟨w.heap.size,3,none⟩=some (.int .i64 0):=by simp[Veu,h]
 have c4:D.cell? ⟨w.heap.size,4,none⟩=some (.int .i64 0):=by simp[Veu,h]
 have f0:∀j,D.frozen? ⟨w.heap.size,j,none⟩=false:=fun j=>by simp[Vev,h]
 unfold Jaa
 go_wp2_with fail
 obtain⟨d,G⟩:∃d,d=((((D.setCell ⟨w.heap.size,0,none⟩ (.int .i64 what)).setCell ⟨w.heap.size,1,none⟩ (.int .i64 loc)).setCell ⟨w.heap.size,2,none⟩ (.string ⟨#[]⟩)).setCell ⟨w.heap.size,3,none⟩ (.int .i64 0)).setCell ⟨w.heap.size,4,none⟩ (.int .i64 0):=⟨_,rfl⟩
 have hF:d.heap[w.heap.size]? =some (.cells #[.int .i64 what,.int .i64 loc,.string ⟨#[]⟩,.int .i64 0,.int .i64 0] 23 (0,0)):=by
  rw[G];simp[Vew,h,Vay]
 have af:Kept w d:=by
  rw[G];refine⟨E.1,E.2,by simpa using E.3,fun q V=> ?_⟩
  have e:∀(W:World) (j:Nat) (v:Value),(W.setCell ⟨w.heap.size,j,none⟩ v).heap[q]? =W.heap[q]? :=fun W j v=>Vaj _ _ _ q (by intro z;simp at z;omega)
  exact(e _ _ _).trans ((e _ _ _).trans ((e _ _ _).trans ((e _ _ _).trans ((e _ _ _).trans (E.4 q V)))))
 rw[<-G];clear G;have d0:d.cell? ⟨w.heap.size,0,none⟩=some (.int .i64 what):=by simp[Veu,hF]
 have Z:d.cell? ⟨w.heap.size,1,none⟩=some (.int .i64 loc):=by simp[Veu,hF]
 have T:d.cell? ⟨w.heap.size,2,none⟩=some (.string ⟨#[]⟩):=by simp[Veu,hF]
 have U:d.cell? ⟨w.heap.size,3,none⟩=some (.int .i64 0):=by simp[Veu,hF]
 have d4:d.cell? ⟨w.heap.size,4,none⟩=some (.int .i64 0):=by simp[Veu,hF]
 exact VaI (v:= .tuple #[.string t,Jaa what loc ⟨#[]⟩]) (by simp[results,results18,go_sem,Jaa,d0,Z,T,U,d4]) rfl ⟨t,what,loc,rfl,HR.out,af⟩
theorem Jhy{s:BA}{L:List Tk}(hE:PEnv s Jas L)(w:World)(hG:Glb A w)(n:Nat)(t:Ty)(names:List BA)(K:Nat)(B:Int)(hM:Jaq L n [] 0 (-1)=some (t,names,K,B)):
  Calls prog 18 #[.string s] w fun e w'=>Kept w w'/\
   (0<=Jab L ⟨#[101,110,100]⟩ K B->e= .returned (.tuple #[.string ⟨#[]⟩,Jaa 2 (Jab L ⟨#[101,110,100]⟩ K B) ⟨#[]⟩]))/\
   (Jab L ⟨#[101,110,100]⟩ K B<0->120<sz t->e= .returned (.tuple #[.string ⟨#[]⟩,Jaa 8 0 ⟨#[]⟩]))/\
   (Jab L ⟨#[101,110,100]⟩ K B<0->sz t<=120->e= .returned (.tuple #[.string (canT t),Jaa 0 0 ⟨#[]⟩])):=by
 have aa:Kept w (w.alloc (.cells #[.int .i64 0,.int .i64 0,.string ⟨#[]⟩,.int .i64 0,.int .i64 0] 23)):=Vet _ _;have M:=hG.kept aa;generalize hW:w.alloc (.cells #[.int .i64 0,.int .i64 0,.string ⟨#[]⟩,.int .i64 0,.int .i64 0] 23)=W at*;have HP:=JeD hE W M n t names K B hM
 have key:Calls prog 43 #[.string s] W fun e w'=>∃h er what loc,e= .returned (.tuple #[.string h,er])/\Kept W w'/\Hid (Calls prog 37 #[er] w' fun e O=>e= .returned (Jaa what loc ⟨#[]⟩)/\Kept w' O)/\((0<=Jab L ⟨#[101,110,100]⟩ K B->h=⟨#[]⟩/\what=2/\loc=Jab L ⟨#[101,110,100]⟩ K B)/\(Jab L ⟨#[101,110,100]⟩ K B<0->120<sz t->h=⟨#[]⟩/\what=8/\loc=0)/\(Jab L ⟨#[101,110,100]⟩ K B<0->sz t<=120->h=canT t/\what=0/\loc=0)):=by
  by_cases hF:0<=Jab L ⟨#[101,110,100]⟩ K B
  .have E:=Jeh s W (fun T z w'=>Kept W w'/\∃b l:Nat,Jab L ⟨#[101,110,100]⟩ K B=l/\T=134/\z= .pointer (some ⟨b,0,none⟩)/\w'.heap[b]? =some (.cells #[.int .i64 l] 145 (0,0))) (HP.mono (fun e w' D=>by
    rcases D.2 with⟨b,l,I,G,J⟩|⟨I,_⟩|⟨I,_⟩
    .exact⟨_,_,G,D.1,b,l,I,rfl,rfl,J⟩
    .omega
    .omega))
   refine E.mono ?_
   rintro e w' ⟨T,z,rfl,Z⟩;obtain⟨d,b,l,I,rfl,rfl,J⟩:=Z.out;refine⟨⟨#[]⟩,_,2,l,rfl,d,?_,fun _=>⟨rfl,rfl,I.symm⟩,fun q=>absurd hF (by omega),fun q=>absurd hF (by omega)⟩
   exact(Jc9 w' (M.kept d) ⟨b,0,none⟩ l (by simp[Veu,J])).mono (fun e O ⟨V,Y⟩=>⟨V,Kept.below Y⟩)
  .by_cases hd:120<sz t
   .have E:=Jeh s W (fun T z w'=>Kept W w'/\T=407/\z= .pointer (some (A 4))) (HP.mono (fun e w' D=>by
     rcases D.2 with⟨b,l,I,_⟩|⟨_,_,G⟩|⟨_,G,_⟩
     .omega
     .exact⟨_,_,G,D.1,rfl,rfl⟩
     .omega))
    refine E.mono ?_
    rintro e w' ⟨T,z,rfl,Z⟩;obtain⟨d,rfl,rfl⟩:=Z.out;exact⟨⟨#[]⟩,_,8,0,rfl,d,Jbs w' (M.kept d) 4 (by omega),fun q=>absurd q hF,fun _ _=>⟨rfl,rfl,rfl⟩,fun _ q=>absurd q (by omega)⟩
   .have E:=JlU s W t (by omega) (HP.mono (fun e w' D=>by
     rcases D.2 with⟨b,l,I,_⟩|⟨_,G,_⟩|⟨_,_,v,vb,G,J,e4,e5,e6⟩
     .omega
     .omega
     .obtain⟨ad,g1,g2,g3,g4⟩:=Jjc J e6 e5 (fun c hc=>(e4 c hc).2);exact⟨v,ad,_,_,G,g2,g3,g4,g1,D.1⟩))
    refine E.mono ?_
    rintro e w' ⟨rfl,d⟩;exact⟨canT t,_,0,0,rfl,d,(Jc8 w').mono (fun e O ⟨V,Y⟩=>⟨V,Kept.below Y⟩),fun q=>absurd q hF,fun _ q=>absurd q hd,fun _ _=>⟨rfl,rfl,rfl⟩⟩
 have:=Jio s w (fun h what loc=>(0<=Jab L ⟨#[101,110,100]⟩ K B->h=⟨#[]⟩/\what=2/\loc=Jab L ⟨#[101,110,100]⟩ K B)/\(Jab L ⟨#[101,110,100]⟩ K B<0->120<sz t->h=⟨#[]⟩/\what=8/\loc=0)/\(Jab L ⟨#[101,110,100]⟩ K B<0->sz t<=120->h=canT t/\what=0/\loc=0)) (by rw[hW];exact key);refine this.mono ?_
 rintro e w' ⟨h,what,loc,rfl,⟨E,h2,h3⟩,d⟩;refine⟨d,fun q=> ?_,fun q U=> ?_,fun q U=> ?_⟩
 .obtain⟨rfl,rfl,rfl⟩:=E q;rfl
 .obtain⟨rfl,rfl,rfl⟩:=h2 q U;rfl
 .obtain⟨rfl,rfl,rfl⟩:=h3 q U;rfl
theorem JgE(s:BA)(w:World)(Y:Glb A w)(h:300<s.size)(G:s.size<=9223372036854775807):
  Calls prog 18 #[.string s] w fun e w'=>e= .returned (.tuple #[.string ⟨#[]⟩,Jaa 1 0 ⟨#[]⟩])/\Kept w w':=by
 have L:Kept w (w.alloc (.cells #[.int .i64 0,.int .i64 0,.string ⟨#[]⟩,.int .i64 0,.int .i64 0] 23)):=Vet _ _;have E:=Y.kept L;generalize I:w.alloc (.cells #[.int .i64 0,.int .i64 0,.string ⟨#[]⟩,.int .i64 0,.int .i64 0] 23)=W at*;have O:=Jeh s W (fun T z w'=>Kept W w'/\T=407/\z= .pointer (some (A 0))) ((Jff s W E h G).mono (fun e w' ⟨J,V⟩=>⟨_,_,J,V,rfl,rfl⟩))
 have key:Calls prog 43 #[.string s] W fun e w'=>∃d er what loc,e= .returned (.tuple #[.string d,er])/\Kept W w'/\Hid (Calls prog 37 #[er] w' fun e U=>e= .returned (Jaa what loc ⟨#[]⟩)/\Kept w' U)/\(d=⟨#[]⟩/\what=1/\loc=0):=by
  refine O.mono ?_
  rintro e w' ⟨T,z,rfl,M⟩;obtain⟨D,rfl,rfl⟩:=M.out;exact⟨⟨#[]⟩,_,1,0,rfl,D,Jbs w' (E.kept D) 0 (by omega),rfl,rfl,rfl⟩
 refine(Jio s w (fun d what loc=>d=⟨#[]⟩/\what=1/\loc=0) (by rw[I];exact key)).mono ?_
 rintro e w' ⟨d,what,loc,rfl,⟨rfl,rfl,rfl⟩,D⟩;exact⟨rfl,D⟩
theorem Ibd(w:World):(Instr.makeMap 163 none).run prog w= .ok (.map (some w.heap.size)) (w.alloc (.map #[] 0)):=by kernel_rfl
theorem Jl9(s z:BA)(w:World)(Q:Value->World->Prop)(G:Value->Value->World->Prop)(R:Nat->World->Prop)(J:Hid (Calls prog 80 #[.string s] w fun e w'=>∃T u,e= .returned (.tuple #[.iface T u,.nilIface])/\Hid (Q (.iface T u) w')))
 (D:Hid (∀h v,Hid (Q v h)->Calls prog 80 #[.string z] h fun e w'=>∃T u,e= .returned (.tuple #[.iface T u,.nilIface])/\Hid (G v (.iface T u) w')))
 (E:Hid (∀d v x,Hid (G v x d)->Calls prog 86 #[.map (some d.heap.size),v,x] (d.alloc (.map #[] 0)) fun e w'=>e= .returned (.bool true)/\Hid (R d.heap.size w'))):
  Calls prog 49 #[.string s,.string z] w fun e w'=>∃mb,e= .returned (.tuple #[.map (some mb),.nilIface])/\Hid (R mb w'):=by
 go_enter func49,ntmps49
 go_wp2_with fail
 refine Vac J.out ?_
 rintro e h ⟨T,u,rfl,L⟩;have D:Hid _:=D.out h _ L;clear J L
 go_wp2_with fail
 refine Vac D.out ?_
 rintro e d ⟨W,O,rfl,I⟩;have E:Hid _:=E.out d _ _ I;have V:=Ibd d;clear D I
 go_wp2_with fail
 refine Vac E.out ?_
 rintro e U ⟨rfl,M⟩;clear E
 go_wp2
 exact VaI (v:= .tuple #[.map (some d.heap.size),.nilIface]) (by simp[results,results49,go_sem]) rfl ⟨_,rfl,M⟩
open Go.RowKit Go.Maps Go.Sort Go.Shelf
shelf_lay_g SlLaysZ.n7 Ggz 7 at Tryz 51 as keysT
shelf_lay_g SlLaysZ.n6 Ggz 6 at Tryz 50 as sortedT
shelf_lay_g SlLaysM.n6 Slgm 6 at Tryz 88 as sortT
theorem IbF(m:Nat):AnyZ.SortsIn prog sortedT_ren Fence.wide m:=
 ⟨fun blk d cap ss W h D E=>VdD.2 (AnyM.slices_Sort_string sortT blk d cap ss W h D E),
  fun p cap W=>VdD.2 (AnyM.slices_Sort_string_none sortT p cap W)⟩
theorem Ia5(mb:Option Nat)(W:World):CallsIn Fence.wide 5 prog 51 #[.map mb] W fun e w'=>e= .returned (.func (.func 89) #[] #[.pointer (some ⟨W.heap.size,0,none⟩)])/\w'=W.alloc (.cells #[.map mb] 94):=
 AnyZ.keys_in keysT Fence.wide 5 trivial rfl mb W
theorem IbE{H:Type}(b D:Nat)(d:DataW H)(R:Value->Option (DataW H×List MemPlace))(w:World)(h:w.ownsMap prog 9 R b D d)(J:Maps.size d<=maxLen)(U:Maps.size d*16<=140737488355328):
  CallsIn Fence.wide 5 prog 50 #[.func (.func 89) #[] #[.pointer (some ⟨w.heap.size,0,none⟩)]] (w.alloc (.cells #[.map (some b)] 94)) fun e w'=>∃(v:Value) (ss:List (List UInt8)),e= .returned v/\ss.Perm (strKeys d)/\
   w'.ownsRow (w.alloc (.cells #[.map (some b)] 94)).heap.size 9 1 v ss.length ((ss.mergeSort (fun x y=>decide (x<=y))).map encStr)/\(v= .slice none 0 0<->ss= [])/\Below (w.alloc (.cells #[.map (some b)] 94)).heap.size (w.alloc (.cells #[.map (some b)] 94)) w':=by
 have I:=h.lt
 have G:SeqGives Fence.wide 2 prog 89 #[.pointer (some ⟨w.heap.size,0,none⟩)] encStr (fun ss=>ss.Perm (strKeys d)) (Maps.size d) (w.alloc (.cells #[.map (some b)] 94)):=
  AnyZ.keys_gives (ρ:=keysT_ren) {keysT with} Fence.wide _ trivial rfl (by omega) w.heap.size b D d _ (by simp) (by simp) (by
   obtain⟨L,O,M,E,T,V⟩:=h;exact⟨L,O,(VaA _ _ b I).trans M,E,T,V⟩)
 exact AnyZ.sorted_in sortedT Fence.wide 5 trivial trivial trivial trivial rfl (by omega) (IbF _) (enters_of func88 (by kernel_rfl) rfl) 89 #[.pointer (some ⟨w.heap.size,0,none⟩)] trivial (enters_of func89 (by kernel_rfl) rfl) _ _ J U _ G
variable {mb:Nat}{kv:List (BA×BA)}
theorem SM.owns{w:World}(h:SM w mb kv)(M:kv.length<=1000)(U:∀y,y∈kv->y.1.size<=maxLen):∃G:DataW Unit,w.ownsMap prog 9 (fun _=>some (.nil,[])) mb kv.length G/\(strKeys G).Perm (kv.map fun y=>y.1.data.toList)/\Maps.size G<=1000:=by
 have J:∀j,j<kv.length->(WideElems.rd (H:=Unit) prog 9 (fun _=>some (.nil,[])) (tEnt kv j))=some (.string (kAt kv j).1.data.toList,.nil):=fun j D=>by
  have:kAt kv j∈kv:=by simp[kAt,List.getD,D]
  simp[WideElems.rd,tEnt,WideMaps.keyOf_string_mk VaR (U _ this)]
 have L:WideElems.Fit (H:=Unit) prog 9 (fun _=>some (.nil,[])) (tEs kv) kv.length:=by
  refine⟨?_,⟨?_,?_,?_⟩,?_⟩
  .simp[tEs,maxLen];omega
  .intro x E;simp[tEs]at E;obtain⟨j,D,rfl⟩:=E;exact D
  .simp[tEs,Vdk]
   have:(List.map ((fun x=>x.born)∘tEnt kv) (List.range kv.length))=List.range kv.length:=by
    have e:((fun x:MapEntry=>x.born)∘tEnt kv)=id:=rfl;rw[e,List.map_id]
   rw[this];exact VdJ
  .have e:((tEs kv).toList.map (·.key))=(kv.map Prod.fst).map Value.string:=by
    apply VdK
    .simp[tEs]
    .intro i O d;simp at d;simp[tEs,tEnt,kAt,List.getD,d]
   rw[e];exact List.Pairwise.map _ (fun a b T z=>T (by simpa using z)) h.nd
  .intro x E;simp[tEs]at E;obtain⟨j,D,rfl⟩:=E;exact⟨_,J j D⟩
 have I:(tEs kv).toList.map (WideElems.rg (H:=Unit) prog 9 (fun _=>some (.nil,[])))=kv.map (fun y=>(Lit.string y.1.data.toList,DataW.nil)):=by
  apply VdK
  .simp[tEs]
  .intro i O d;simp at d;have:=J i d;simp[tEs,WideElems.rg,this];simp[kAt,List.getD,d]
 refine⟨_,⟨tEs kv,kv.length,h.mp,L,by simp[tEs],rfl⟩,?_,?_⟩
 .rw[I];have:=(Veg (kv.map (fun y=>((Lit.string y.1.data.toList,DataW.nil):Lit×DataW Unit)))).map (fun p=>strOf p.1);rw[Vdk]at this;exact this
 .rw[I];have:=(Veg (kv.map (fun y=>((Lit.string y.1.data.toList,DataW.nil):Lit×DataW Unit)))).length_eq;rw[Maps.size_eq,this];simpa using M
theorem Jid(mb:Option Nat)(W:World):Calls prog 51 #[.map mb] W fun e w'=>e= .returned (.func (.func 89) #[] #[.pointer (some ⟨W.heap.size,0,none⟩)])/\w'=W.alloc (.cells #[.map mb] 94):=VdD.1 (Ia5 mb W)
end Go.Proofs.YtleenphlgbklmaaGreatDoor
