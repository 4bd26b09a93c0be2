import Derived.Test.YtleenphlgbklmaaGreatDoorACPTokAt
import Derived.Test.YtleenphlgbklmaaGreatDoorACTokBase
import Derived.Laws.IdiomRangeMap
import Derived.Test.YtleenphlgbklmaaGreatDoorACAsHG
import Derived.Test.YtleenphlgbklmaaGreatDoorACIsZ
import Derived.Maps.RangeWalk
set_option linter.unusedVariables false
set_option linter.unusedSimpArgs false
set_option maxRecDepth 100000
set_option maxHeartbeats 8000000
namespace Go.Proofs.YtleenphlgbklmaaGreatDoor
open Go.RowKit
open World renaming setCell → Vet, cell? → Veu, frozen? → Vev
open Instr renaming mapUpdate → Vew
open Tryz
variable {w w':World}{P:Nat->Prop}{B n:Nat}{v:Value}{A:Nat->Addr}
theorem JkT(s:BA)(i:Nat)(d:s.size<=300)(U:i<=s.size)(kd:Nat)(x:BA)(k:Nat)(h:pTok s i=some (kd,x,k))(w:World):
  Calls prog 172 #[.string s,.int .i64 i] w fun e w'=>e= .returned (.agg #[.int .i64 kd,.int .i64 i,.string x])/\Below w.heap.size w w':=by
 unfold pTok at h
 split at h
 .rename_i D
  split at h
  .rename_i G
   split at h
   .rename_i J;simp only[Vaa,Vaf]at h;obtain⟨rfl,rfl,rfl⟩:=h;have T:=Jb5 lfI s i;have e:run lfI s i=i+(run lfI s i-i):=by omega
    have:=JkU s i (run lfI s i-i) d D G e J w;rw[<-e]at this;exact this
   .cases h
  .rename_i G;have L:lowI (chr s i)=false:=by simpa using G
   split at h
   .rename_i I
    split at h
    .rename_i J;simp only[Vaa,Vaf]at h;obtain⟨rfl,rfl,rfl⟩:=h;have T:=Jb5 figI s i;have e:run figI s i=i+(run figI s i-i):=by omega
     have:=JmP s i (run figI s i-i) d D L I e J w;rw[<-e]at this;exact this
    .cases h
   .rename_i I;have M:figI (chr s i)=false:=by simpa using I
    split at h
    .rename_i E;simp only[Vaa,Vaf]at h;obtain⟨rfl,rfl,rfl⟩:=h;exact JgL s i 2 d D L M (by rw[Vat ⟨E.1,by omega,E.2.2⟩];rfl) (by omega) (by omega) (by omega) w
    .rename_i E
     split at h
     .rename_i O;simp only[Vaa,Vaf]at h;obtain⟨rfl,rfl,rfl⟩:=h;exact JgL s i 1 d D L M (by rw[Vaq (fun q=>E ⟨q.1,by omega,q.2.2⟩),Vat O];rfl) (by omega) (by omega) (by omega) w
     .cases h
 .rename_i D;simp only[Vaa,Vaf]at h;obtain⟨rfl,rfl,rfl⟩:=h;exact JmO s i d (by omega) w
theorem JkS(s:BA)(i:Nat)(D:s.size<=300)(h:pTok s i=none)(w:World):
  Calls prog 172 #[.string s,.int .i64 i] w fun e w'=>∃b,e=thrown (.iface 134 (.pointer (some ⟨b,0,none⟩)))/\w'.heap[b]? =some (.cells #[.int .i64 i] 145 (0,0))/\w.heap.size<=b/\Below w.heap.size w w':=by
 unfold pTok at h
 split at h
 .rename_i E
  split at h
  .rename_i d
   split at h
   .cases h
   .rename_i T;have L:=Jb5 lfI s i;exact JfL s i (run lfI s i-i) D E d (by omega) (by omega) w
  .rename_i d;have I:lowI (chr s i)=false:=by simpa using d
   split at h
   .rename_i G
    split at h
    .cases h
    .rename_i T;have L:=Jb5 figI s i;exact JgK s i (run figI s i-i) D E I G (by omega) (by omega) w
   .rename_i G;have M:figI (chr s i)=false:=by simpa using G
    split at h
    .cases h
    .rename_i O
     split at h
     .cases h
     .rename_i J;exact JfK s i 0 D E I M (by rw[Vaq (fun q=>O ⟨q.1,by omega,q.2.2⟩),Vaq J];rfl) rfl w
 .cases h
def PRd(w:World)(rb:Nat)(s:BA)(kd i:Nat)(x:BA):Prop:=w.heap[rb]? =some (.cells #[.string s,.int .i64 kd,.int .i64 i,.string x] 256 (0,0))
variable {rb kd i:Nat}{s x:BA}
theorem PRd.set(h:PRd w rb s kd i x)(d D:Nat)(E:BA):PRd (((w.setCell ⟨rb,1,none⟩ (.int .i64 d)).setCell ⟨rb,2,none⟩ (.int .i64 D)).setCell ⟨rb,3,none⟩ (.string E)) rb s d D E:=by
 have h:w.heap[rb]? =some (.cells #[.string s,.int .i64 kd,.int .i64 i,.string x] 256 (0,0)):=h;simp[PRd,Vet,h,Vay]
theorem Jew(w:World)(rb:Nat)(s x:BA)(kd i:Nat)(h:PRd w rb s kd i x)(hs:s.size<=300)(T:i+x.size<=s.size)(E:Nat)(y:BA)(V:Nat)(W:pTok s (run blI s (i+x.size))=some (E,y,V)):
  Calls prog 128 #[.pointer (some ⟨rb,0,none⟩)] w fun e w'=>e= .returned (.tuple #[])/\Kp (·=rb) w w'/\PRd w' rb s E (run blI s (i+x.size)) y:=by
 have G:w.heap[rb]? =some (.cells #[.string s,.int .i64 kd,.int .i64 i,.string x] 256 (0,0)):=h;have c0:w.cell? ⟨rb,0,none⟩=some (.string s):=by simp[Veu,G]
 have Y:w.cell? ⟨rb,1,none⟩=some (.int .i64 kd):=by simp[Veu,G]
 have c2:w.cell? ⟨rb,2,none⟩=some (.int .i64 i):=by simp[Veu,G]
 have c3:w.cell? ⟨rb,3,none⟩=some (.string x):=by simp[Veu,G]
 have ae:=JcT blI s (i+x.size) T;have aa:=Jbi blI s (i+x.size) T;have HD:Hid (∀w,Calls prog 170 #[.string (s.extract (i+x.size) s.size),.func (Fn.func 171) #[] #[]] w fun e w'=>e= .returned (.int .i64 (run blI (s.extract (i+x.size) s.size) 0:Nat))/\w'=w):=fun w=>Je8 _ (by simp[Va2];omega) w
 have U:Hid (∀w,Calls prog 172 #[.string s,.int .i64 (run blI s (i+x.size):Nat)] w fun e w'=>e= .returned (.agg #[.int .i64 E,.int .i64 (run blI s (i+x.size):Nat),.string y])/\Below w.heap.size w w'):=fun w=>JkT s _ hs aa E y V W w
 generalize run blI s (i+x.size)=L at*;generalize run blI (s.extract (i+x.size) s.size) 0=n at*;have O:(L:Int)=(i:Int)+(x.size:Int)+(n:Int):=by omega
 have ac:Hid (∀w,Calls prog 172 #[.string s,.int .i64 ((i:Int)+(x.size:Int)+(n:Int))] w fun e w'=>e= .returned (.agg #[.int .i64 E,.int .i64 L,.string y])/\Below w.heap.size w w'):=fun w=>by rw[<-O];exact U.out w
 clear W O U
 go_enter func128,ntmps128
 go_wp2_with fail
 go_quiet (fail)
 go_wp2_with fail
 refine Vac (HD.out _) ?_
 rintro e w1 ⟨rfl,rfl⟩
 go_wp2_with fail
 refine Vac (ac.out _) ?_
 rintro e d ⟨rfl,I⟩;have D:Below w.heap.size w d:=⟨I.os,I.tape,I.output,I.size,I.block⟩
 have M:PRd d rb s kd i x:=(D.block rb (Vah G)).trans G;have J:d.heap[rb]? =some (.cells #[.string s,.int .i64 kd,.int .i64 i,.string x] 256 (0,0)):=M;have e1:d.cell? ⟨rb,1,none⟩=some (.int .i64 kd):=by simp[Veu,J]
 have e2:d.cell? ⟨rb,2,none⟩=some (.int .i64 i):=by simp[Veu,J]
 have e3:d.cell? ⟨rb,3,none⟩=some (.string x):=by simp[Veu,J]
 have fz:∀q,d.frozen? ⟨rb,q,none⟩=false:=fun q=>by simp[Vev,J]
 have hF:=M.set E L y
 have hK:Kp (·=rb) w (((d.setCell ⟨rb,1,none⟩ (.int .i64 E)).setCell ⟨rb,2,none⟩ (.int .i64 L)).setCell ⟨rb,3,none⟩ (.string y)):=
  ((Kp.setCell (Kp.setCell (Kp.setCell (S:=(·=rb)) ⟨D.os,D.tape,D.output,D.size,fun q Z _=>D.block q Z⟩ _ _ (fun _=>rfl)) _ _ (fun _=>rfl)) _ _ (fun _=>rfl)))
 clear I D M J c0 Y c2 c3 G h
 go_wp2
 go_end0
 exact⟨rfl,hK,hF⟩
theorem Jev(w:World)(rb:Nat)(s x:BA)(kd i:Nat)(h:PRd w rb s kd i x)(Z:s.size<=300)(I:i+x.size<=s.size)(M:pTok s (run blI s (i+x.size))=none):
  Calls prog 128 #[.pointer (some ⟨rb,0,none⟩)] w fun e w'=>∃b,e=thrown (.iface 134 (.pointer (some ⟨b,0,none⟩)))/\w'.heap[b]? =some (.cells #[.int .i64 (run blI s (i+x.size):Nat)] 145 (0,0))/\w.heap.size<=b/\Below w.heap.size w w':=by
 have D:w.heap[rb]? =some (.cells #[.string s,.int .i64 kd,.int .i64 i,.string x] 256 (0,0)):=h;have c0:w.cell? ⟨rb,0,none⟩=some (.string s):=by simp[Veu,D]
 have c1:w.cell? ⟨rb,1,none⟩=some (.int .i64 kd):=by simp[Veu,D]
 have c2:w.cell? ⟨rb,2,none⟩=some (.int .i64 i):=by simp[Veu,D]
 have c3:w.cell? ⟨rb,3,none⟩=some (.string x):=by simp[Veu,D]
 have aa:=JcT blI s (i+x.size) I;have ac:=Jbi blI s (i+x.size) I;have V:Hid (∀w,Calls prog 170 #[.string (s.extract (i+x.size) s.size),.func (Fn.func 171) #[] #[]] w fun e w'=>e= .returned (.int .i64 (run blI (s.extract (i+x.size) s.size) 0:Nat))/\w'=w):=fun w=>Je8 _ (by simp[Va2];omega) w
 have J:Hid (∀w,Calls prog 172 #[.string s,.int .i64 (run blI s (i+x.size):Nat)] w fun e w'=>∃b,e=thrown (.iface 134 (.pointer (some ⟨b,0,none⟩)))/\w'.heap[b]? =some (.cells #[.int .i64 (run blI s (i+x.size):Nat)] 145 (0,0))/\w.heap.size<=b/\Below w.heap.size w w'):=fun w=>JkS s _ Z M w
 generalize run blI s (i+x.size)=E at*;generalize run blI (s.extract (i+x.size) s.size) 0=n at*;have G:(E:Int)=(i:Int)+(x.size:Int)+(n:Int):=by omega
 have Y:Hid (∀w,Calls prog 172 #[.string s,.int .i64 ((i:Int)+(x.size:Int)+(n:Int))] w fun e w'=>∃b,e=thrown (.iface 134 (.pointer (some ⟨b,0,none⟩)))/\w'.heap[b]? =some (.cells #[.int .i64 E] 145 (0,0))/\w.heap.size<=b/\Below w.heap.size w w'):=fun w=>by rw[<-G];exact J.out w
 clear M G J
 go_enter func128,ntmps128
 go_wp2_with fail
 go_quiet (fail)
 go_wp2_with fail
 refine Vac (V.out _) ?_
 rintro e w1 ⟨rfl,rfl⟩
 go_wp2_with fail
 refine Vac (Y.out _) ?_
 rintro e W ⟨b,L,U,O,d⟩;have T:Below w.heap.size w W:=⟨d.os,d.tape,d.output,d.size,d.block⟩
 rw[L];clear L d
 go_wp2
 exact⟨rfl,b,rfl,U,O,T⟩
def kwIn(kws:List BA)(x:BA):Bool:=kws.any (fun w=>Jag x w)
theorem Jgt(x:BA)(kws:List BA)(D:∀w,w∈kws->w≠⟨#[110,97,109,101]⟩):kws.foldl (Jby x) ⟨#[110,97,109,101]⟩=if kwIn kws x then x else⟨#[110,97,109,101]⟩:=by
 induction kws with
 |nil=>rfl
 |cons w kws h=>
  rw[VbO];have I:=D w (by simp);have h:=h (fun v E=>D v (by simp[E]))
  by_cases e:Jag x w=true
  .have G:=(Jaf x w).1 e;subst G;have d:Jby x ⟨#[110,97,109,101]⟩ x=x:=by unfold Jby;rw[Vat (by simp)]
   rw[d,JaI x x kws (by
    rw[Vbm];intro q;exact I ((Jaf x ⟨#[110,97,109,101]⟩).1 q))]
   simp[kwIn,e]
  .have d:Jby x ⟨#[110,97,109,101]⟩ w=⟨#[110,97,109,101]⟩:=by
    unfold Jby;rw[Vaq];intro q;simp only[Vaz]at q;exact e q.2
   rw[d,h];have J:Jag x w=false:=by simpa using e
   simp[kwIn,J]
theorem Jnh(s:BA)(i:Nat)(h:i<s.size):s.extract i (i+1)=⟨#[s[i]]⟩:=by
 apply Vbf
 rw[Vbg];apply Array.ext
 .simp;omega
 .intro j D d;have:j=0:=by simp at d;omega
  subst this;simp;rfl
theorem Jov(s:BA)(i:Nat)(h:chr s i=45/\i+1<s.size/\chr s (i+1)=62):s.extract i (i+2)=⟨#[45,62]⟩:=by
 obtain⟨D,d,E⟩:=h;have J:=JbZ s i (by omega);have c2:=JbZ s (i+1) d;rw[D]at J;rw[E]at c2;have I:s[i]=45:=VcM.1 (by have:((45:UInt8).toNat)=45:=rfl;omega);have G:s[i+1]=62:=VcM.1 (by have:((62:UInt8).toNat)=62:=rfl;omega);apply Vbf
 rw[Vbg];apply Array.ext
 .simp;omega
 .intro j D d;have:j=0\/j=1:=by simp at d;omega
  rcases this with rfl|rfl
  .simp;exact I
  .simp;exact G
inductive Link(s:BA)(kws:List BA)(i:Nat)(t:Tk)(k:Nat):Prop
 |fin:i=s.size->t.is=⟨#[101,110,100]⟩->t.s=⟨#[]⟩->pTok s i=some (0,⟨#[]⟩,i)->k=i->Link s kws i t k
 |bad:t.is=⟨#[110,111,110,101]⟩->pTok s i=none->Link s kws i t k
 |word:i<s.size->lowI (chr s i)=true->pTok s i=some (1,t.s,k)->t.is=(if kwIn kws t.s then t.s else⟨#[110,97,109,101]⟩)->Link s kws i t k
 |num:i<s.size->lowI (chr s i)=false->figI (chr s i)=true->pTok s i=some (2,t.s,k)->t.is=⟨#[110,117,109]⟩->Link s kws i t k
 |sign:i<s.size->lowI (chr s i)=false->figI (chr s i)=false->pTok s i=some (3,t.s,k)->t.is=t.s->(t.s=⟨#[45,62]⟩\/∃(h:i<s.size),t.s=⟨#[s[i]]⟩/\JaW (chr s i)=true)->Link s kws i t k
theorem JfW(s:BA)(kws:List BA)(Y:∀w,w∈kws->w≠⟨#[110,97,109,101]⟩)(i:Nat)(Z:i<=s.size):Link s kws i (tok1 s kws i).1 (tok1 s kws i).2:=by
 by_cases d:i<s.size
 .by_cases h:lowI (chr s i)=true
  .have G:clsI s i=⟨#[110,97,109,101]⟩:=by rw[clsI,Vat d,Vat h]
   have D:clsK s i=run lfI s i:=by rw[clsK,Vat d,Vat h]
   by_cases M:run lfI s i-i<=8
   .refine .word d h ?_ ?_
    .simp only[pTok,Vat d,Vat h,Vat M,tok1,D]
    .simp only[tok1,G,D];have:clsB ⟨#[110,97,109,101]⟩ (run lfI s i-i)=⟨#[110,97,109,101]⟩:=by unfold clsB;rw[Vaq (by simp;intro _;omega)]
     rw[this];exact Jgt _ kws Y
   .refine .bad ?_ ?_
    .simp only[tok1,G,D]
     have:clsB ⟨#[110,97,109,101]⟩ (run lfI s i-i)=⟨#[110,111,110,101]⟩:=by
      unfold clsB
      rw[Vat (by
       have a:isNN ⟨#[110,97,109,101]⟩=true:=by decide
       rw[a];simp;omega)]
     rw[this];exact JaI _ _ _ (by decide)
    .simp only[pTok,Vat d,Vat h,Vaq M]
  .have O:lowI (chr s i)=false:=by simpa using h
   by_cases E:figI (chr s i)=true
   .have G:clsI s i=⟨#[110,117,109]⟩:=by rw[clsI,Vat d,Vaq h,Vat E]
    have D:clsK s i=run figI s i:=by rw[clsK,Vat d,Vaq h,Vat E]
    by_cases M:run figI s i-i<=8
    .refine .num d O E ?_ ?_
     .simp only[pTok,Vat d,Vaq h,Vat E,Vat M,tok1,D]
     .simp only[tok1,G,D];have:clsB ⟨#[110,117,109]⟩ (run figI s i-i)=⟨#[110,117,109]⟩:=by unfold clsB;rw[Vaq (by simp;intro _;omega)]
      rw[this];exact JaI _ _ _ (by decide)
    .refine .bad ?_ ?_
     .simp only[tok1,G,D]
      have:clsB ⟨#[110,117,109]⟩ (run figI s i-i)=⟨#[110,111,110,101]⟩:=by
       unfold clsB
       rw[Vat (by
        have a:isNN ⟨#[110,117,109]⟩=true:=by decide
        rw[a];simp;omega)]
      rw[this];exact JaI _ _ _ (by decide)
     .simp only[pTok,Vat d,Vaq h,Vat E,Vaq M]
   .have W:figI (chr s i)=false:=by simpa using E
    by_cases I:chr s i=45/\i+1<s.size/\chr s (i+1)=62
    .have G:clsI s i=⟨#[45,62]⟩:=by rw[clsI,Vat d,Vaq h,Vaq E,Vat I]
     have D:clsK s i=i+2:=by rw[clsK,Vat d,Vaq h,Vaq E,Vat I]
     have L:=Jov s i I;refine .sign d O W ?_ ?_ (.inl ?_)
     .simp only[pTok,Vat d,Vaq h,Vaq E,Vat I,tok1,D]
     .simp only[tok1,G,D,L];rw[JcN _ _ (by decide)];exact JaI _ _ _ (by decide)
     .simp only[tok1,D,L]
    .by_cases J:JaW (chr s i)=true
     .have G:clsI s i=s.extract i (i+1):=by rw[clsI,Vat d,Vaq h,Vaq E,Vaq I,Vat J]
      have D:clsK s i=i+1:=by rw[clsK,Vat d,Vaq h,Vaq E,Vaq I,Vat J]
      have L:=Jnh s i d
      have T:∀w:BA,w.size≠1->((⟨#[s[i]]⟩:BA).data.toList==w.data.toList)=false:=fun w U=>by
       rw[Vbm];intro q;have q:=(Jaf _ w).1 q;rw[<-q]at U;exact U rfl
      refine .sign d O W ?_ ?_ (.inr ⟨d,?_,J⟩)
      .simp only[pTok,Vat d,Vaq h,Vaq E,Vaq I,Vat J,tok1,D]
      .simp only[tok1,G,D,L];rw[JcN _ _ (by unfold isNN;rw[T _ (by decide),T _ (by decide)];rfl)];exact JaI _ _ _ (T _ (by decide))
      .simp only[tok1,D,L]
     .have G:clsI s i=⟨#[110,111,110,101]⟩:=by rw[clsI,Vat d,Vaq h,Vaq E,Vaq I,Vaq J]
      refine .bad ?_ ?_
      .simp only[tok1,G];rw[JcN _ _ (by decide)];exact JaI _ _ _ (by decide)
      .simp only[pTok,Vat d,Vaq h,Vaq E,Vaq I,Vaq J]
 .have V:i=s.size:=by omega
  have G:clsI s i=⟨#[101,110,100]⟩:=by rw[clsI,Vaq d]
  have D:clsK s i=i:=by rw[clsK,Vaq d]
  refine .fin V ?_ ?_ ?_ ?_
  .simp only[tok1,G];rw[JcN _ _ (by decide)];exact JaI _ _ _ (by decide)
  .simp only[tok1,D];rw[V];exact Jgg s
  .simp only[pTok,Vaq d]
  .exact D
theorem JfU(names:List BA)(q:Nat):((names.take q).map fun s=>s.size+16).sum<=(names.map fun s=>s.size+16).sum:=by
 induction names generalizing q with
 |nil=>simp
 |cons n h d=>
  cases q with
  |zero=>simp
  |succ q=>simp only[Vds,VaP,VbY];have:=d q;omega
theorem JbD(names:List BA)(q:Nat)(h:q<names.length):((names.take (q+1)).map fun s=>s.size+16).sum=((names.take q).map fun s=>s.size+16).sum+((names.getD q ⟨#[]⟩).size+16):=by
 rw[Va9 h,Vbu,VcN,VaP,Vbb,VbY,Vcq];simp only[List.getD,Vav h,Vcg,Vei]
theorem JfY(xs:List X)(q:Nat):tws (xs.take q)<=tws xs:=by
 induction xs generalizing q with
 |nil=>simp
 |cons n h d=>
  cases q with
  |zero=>simp[tws]
  |succ q=>simp only[Vds,tws];have:=d q;omega
theorem Jfn(xs:List X)(y:X):tws (xs++ [y])=tws xs+(tw y+16):=by
 induction xs with
 |nil=>simp[tws]
 |cons x xs d=>simp only[VaV,tws,d];omega
theorem Jbf(xs:List X)(q:Nat)(h:q<xs.length):tws (xs.take (q+1))=tws (xs.take q)+(tw (xs.getD q X.none)+16):=by
 rw[Va9 h,Jfn];simp[List.getD,h]
variable {q:Nat}
theorem Jh9{xs:List X}(h:q<xs.length):xs.getD q X.none∈xs:=by simp[List.getD,h]
theorem Jgv(h:BA)(names:List BA)(kids:List X)(G:∀y,y∈kids->(txt y).size<=tw y)(q:Nat)(I:q<=names.length)(J:q<=kids.length):
  (letT h names (txts kids) q).size<=h.size+((names.take q).map fun s=>s.size+16).sum+tws (kids.take q):=by
 induction q with
 |zero=>simp[letT]
 |succ q D=>
  have M:=D (by omega) (by omega);rw[letT,JbD names q (by omega),Jbf kids q (by omega),JcX kids q (by omega)];have L:=G _ (Jh9 (xs:=kids) (q:=q) (by omega));have E:(⟨#[32,97,110,100,32]⟩:BA).size=5:=rfl;have d:(⟨#[32,61,32]⟩:BA).size=3:=rfl
  split
  .simp only[Var,E,d];omega
  .simp only[Var,d];omega
theorem JhX(b:Bool)(s:BA):(brk b s).size<=s.size+2:=by
 unfold brk;have h:(⟨#[40]⟩:BA).size=1:=rfl;have d:(⟨#[41]⟩:BA).size=1:=rfl
 split
 .simp only[Var,h,d];omega
 .omega
theorem JiF(x:X):WF x->(txt x).size<=tw x:=by
 induction x using X.ind with
 |h op names kids loc d=>
  intro h
  cases h with
  |leaf _ n _ h=>
   rcases h with rfl|rfl<;>simp[txt,txts,tw,tws]<;>omega
  |fn n a _ D=>
   have:=d a (by simp) D;simp[txt,txts,tw,tws];have E:(⟨#[102,117,110,32]⟩:BA).size=4:=rfl;have I:(⟨#[32,45,62,32]⟩:BA).size=4:=rfl;omega
  |pair a b _ D G=>
   have L:=d a (by simp) D;have O:=d b (by simp) G;simp[txt,txts,tw,tws];have E:(⟨#[40]⟩:BA).size=1:=rfl;have I:(⟨#[44,32]⟩:BA).size=2:=rfl;have J:(⟨#[41]⟩:BA).size=1:=rfl;omega
  |ite a b c _ D G V=>
   have L:=d a (by simp) D;have O:=d b (by simp) G;have Y:=d c (by simp) V;simp[txt,txts,tw,tws];have E:(⟨#[105,102,32]⟩:BA).size=3:=rfl;have I:(⟨#[32,116,104,101,110,32]⟩:BA).size=6:=rfl;have J:(⟨#[32,101,108,115,101,32]⟩:BA).size=6:=rfl;omega
  |app a b _ D G=>
   have L:=d a (by simp) D;have O:=d b (by simp) G;have b1:=JhX (JbR a.op) (txt a);have b2:=JhX (JbL b.op) (txt b);simp[txt,txts,tw,tws];have E:(⟨#[32]⟩:BA).size=1:=rfl;omega
  |lt _ _ _ _ h Z L W=>
   have M:∀y,y∈kids->(txt y).size<=tw y:=fun y T=>d y T (W y T)
   have i2:=M _ (Jh9 (xs:=kids) (q:=names.length) (by omega));have U:=JcX kids names.length (by omega);have e3:=Jbf kids names.length (by omega);have e4:=JfY kids (names.length+1);have e5:=JfU names names.length;have E:(⟨#[32,105,110,32]⟩:BA).size=4:=rfl;have I:(⟨#[108,101,116,32]⟩:BA).size=4:=rfl;have J:(⟨#[114,101,99,32]⟩:BA).size=4:=rfl
   rcases h with rfl|rfl
   .have l1:=Jgv ⟨#[108,101,116,32]⟩ names kids M names.length (by omega) (by omega);simp only[txt,tw,Va0,show¬((⟨#[108,101,116]⟩:BA)=⟨#[102,117,110]⟩)from by decide,show¬((⟨#[108,101,116]⟩:BA)=⟨#[112,97,105,114]⟩)from by decide,show¬((⟨#[108,101,116]⟩:BA)=⟨#[105,102]⟩)from by decide,show¬((⟨#[108,101,116]⟩:BA)=⟨#[97,112,112]⟩)from by decide,VaS,U,Var,E];omega
   .have l1:=Jgv (⟨#[108,101,116,32]⟩++⟨#[114,101,99,32]⟩) names kids M names.length (by omega) (by omega);simp only[Var,I,J]at l1;simp only[txt,tw,Va0,show¬((⟨#[114,101,99]⟩:BA)=⟨#[102,117,110]⟩)from by decide,show¬((⟨#[114,101,99]⟩:BA)=⟨#[112,97,105,114]⟩)from by decide,show¬((⟨#[114,101,99]⟩:BA)=⟨#[105,102]⟩)from by decide,show¬((⟨#[114,101,99]⟩:BA)=⟨#[97,112,112]⟩)from by decide,show¬((⟨#[114,101,99]⟩:BA)=⟨#[108,101,116]⟩)from by decide,VaS,U,Var,E];omega
def opn(t:BA):Bool:=Jag t ⟨#[]⟩||Jag t ⟨#[40]⟩
def cls(t:BA):Bool:=Jag t ⟨#[41]⟩||Jag t ⟨#[44]⟩
def pre(last:BA):BA:=if opn last then⟨#[]⟩else⟨#[32]⟩
def sep(last t:BA):BA:=if cls t then⟨#[]⟩else pre last
def em:BA->List BA->BA
 |_,[]=>⟨#[]⟩
 |l,t::ts=>sep l t++t++em t ts
def lst:BA->List BA->BA
 |l,[]=>l
 |_,t::ts=>lst t ts
structure Wd(t:BA):Prop where
 o:opn t=false
 c:cls t=false
variable {t:BA}
theorem JaH(h:opn t=false):pre t=⟨#[32]⟩:=by unfold pre;rw[h];rfl
variable {l:BA}
theorem JaP(h:cls t=false):sep l t=pre l:=by unfold sep;rw[h];rfl
theorem JqK(ts d:List BA):∀l,em l (ts++d)=em l ts++em (lst l ts) d:=by
 induction ts with
 |nil=>intro l;simp only[VaK,em,lst];exact(Vbf (by simp)).symm
 |cons t ts h=>intro l;simp only[VaV,em,lst,h,Vb1]
theorem Jpa(ts d:List BA):∀l,lst l (ts++d)=lst (lst l ts) d:=by
 induction ts with
 |nil=>intro l;rfl
 |cons t ts h=>intro l;simp only[VaV,lst,h]
theorem Jci(l t:BA):(sep l t).size<=1:=by
 unfold sep pre
 split
 .decide
 .split<;>decide
theorem JoH(ts:List BA):∀l,(em l ts).size<=(ts.map fun t=>t.size+1).sum:=by
 induction ts with
 |nil=>intro l;exact VaN _
 |cons t ts d=>
  intro l;have D:=d t;have h:=Jci l t;simp only[em,Var,VaP,VbY];omega
theorem JjG(l t:BA):em l [t]=sep l t++t:=by
 simp only[em];exact Vbf (by simp)
inductive PX(w:World)(P:Nat->Prop):X->Value->Prop
 |name (n:BA) (loc b:Nat):Wd n->P b->w.heap[b]? =some (.cells #[.int .i64 1,.string n,.int .i64 loc] 262 (0,0))->PX w P (.mk ⟨#[110,97,109,101]⟩ [n] [] loc) (.iface 257 (.pointer (some ⟨b,0,none⟩)))
 |num (n:BA) (loc b:Nat):Wd n->P b->w.heap[b]? =some (.cells #[.int .i64 1,.string n] 265 (0,0))->PX w P (.mk ⟨#[110,117,109]⟩ [n] [] loc) (.iface 263 (.pointer (some ⟨b,0,none⟩)))
 |fn (n:BA) (x:X) (loc b:Nat) (p:Value):Wd n->P b->w.heap[b]? =some (.cells #[.int .i64 (dp x+1:Nat),.string n,p] 268 (0,0))->PX w P x p->PX w P (.mk ⟨#[102,117,110]⟩ [n] [x] loc) (.iface 266 (.pointer (some ⟨b,0,none⟩)))
 |ite (x y z:X) (loc b:Nat) (p q r:Value):P b->w.heap[b]? =some (.cells #[.int .i64 (max (dp x) (max (dp y) (dp z))+1:Nat),p,q,r] 332 (0,0))->PX w P x p->PX w P y q->PX w P z r->PX w P (.mk ⟨#[105,102]⟩ [] [x,y,z] loc) (.iface 269 (.pointer (some ⟨b,0,none⟩)))
 |lt (n:BA) (x y:X) (loc b:Nat) (p q:Value):Wd n->P b->w.heap[b]? =some (.cells #[.int .i64 (max (dp x) (dp y)+1:Nat),.string n,p,q] 273 (0,0))->PX w P x p->PX w P y q->PX w P (.mk ⟨#[108,101,116]⟩ [n] [x,y] loc) (.iface 271 (.pointer (some ⟨b,0,none⟩)))
 |app (x y:X) (loc b:Nat) (p q:Value):P b->w.heap[b]? =some (.cells #[.int .i64 (max (dp x) (dp y)+1:Nat),p,q] 280 (0,0))->PX w P x p->PX w P y q->PX w P (.mk ⟨#[97,112,112]⟩ [] [x,y] loc) (.iface 276 (.pointer (some ⟨b,0,none⟩)))
 |pair (x y:X) (loc b:Nat) (p q:Value):P b->w.heap[b]? =some (.cells #[.int .i64 (max (dp x) (dp y)+1:Nat),p,q] 283 (0,0))->PX w P x p->PX w P y q->PX w P (.mk ⟨#[112,97,105,114]⟩ [] [x,y] loc) (.iface 281 (.pointer (some ⟨b,0,none⟩)))
 |rc (names:List BA) (kids:List X) (y:X) (loc b:Nat) (nv vv q:Value) (ps:List Value):names≠ []->(∀m,m∈names->Wd m)->P b->w.heap[b]? =some (.cells #[.int .i64 (max (dps kids) (dp y)+1:Nat),nv,vv,q] 341 (0,0))->
   w.ownsRow 0 9 1 nv names.length (names.map Value.string)->w.ownsRow 0 130 1 vv ps.length ps->(∀g,nv.ownBlock=some g->P g)->(∀g,vv.ownBlock=some g->P g)->ps.length=kids.length->names.length=kids.length->(∀(j:Nat) (x:X) (p:Value),kids[j]? =some x->ps[j]? =some p->PX w P x p)->PX w P y q->PX w P (.mk ⟨#[114,101,99]⟩ names (kids++ [y]) loc) (.iface 274 (.pointer (some ⟨b,0,none⟩)))
variable {e:TypeId}{z:Nat}{xs:List Value}
theorem Jbp(G:∀b,P b->b<w.heap.size->w'.heap[b]? =w.heap[b]?)(L:∀g,v.ownBlock=some g->P g)(h:w.ownsRow B e z v n xs):w'.ownsRow B e z v n xs:=by
 refine⟨h.1,?_⟩
 rcases h.2 with h|⟨g,cap,J,E,I,d,D⟩
 .exact .inl h
 .subst E;exact .inr ⟨g,cap,J,rfl,I,(G g (L g rfl) (Vah d)).trans d,D⟩
theorem PX.keep(J:∀b,P b->b<w.heap.size->w'.heap[b]? =w.heap[b]?){t:X}(h:PX w P t v):PX w' P t v:=by
 have G:∀{b o},P b->w.heap[b]? =some o->w'.heap[b]? =some o:=fun d h=>(J _ d (Vah h)).trans h
 induction h with
 |name n loc b D d h=>exact .name n loc b D d (G d h)
 |num n loc b D d h=>exact .num n loc b D d (G d h)
 |fn n x loc b p D d h _ E=>exact .fn n x loc b p D d (G d h) E
 |ite x y z loc b p q r d h _ _ _ E I i2=>exact .ite x y z loc b p q r d (G d h) E I i2
 |lt n x y loc b p q D d h _ _ E I=>exact .lt n x y loc b p q D d (G d h) E I
 |app x y loc b p q d h _ _ E I=>exact .app x y loc b p q d (G d h) E I
 |pair x y loc b p q d h _ _ E I=>exact .pair x y loc b p q d (G d h) E I
 |rc names kids y loc b W O q ps Z D d h V T L M U Y _ _ i j=>exact .rc names kids y loc b W O q ps Z D d (G d h) (Jbp J L V) (Jbp J M T) L M U Y i j
variable {Q:Nat->Prop}
theorem PX.mono(D:∀b,P b->b<w.heap.size->Q b){t:X}(h:PX w P t v):PX w Q t v:=by
 have M:∀{e:TypeId} {v:Value} {n:Nat} {xs:List Value},w.ownsRow 0 e 1 v n xs->(∀g,v.ownBlock=some g->P g)->∀g,v.ownBlock=some g->Q g:=fun h d g e=>by
  refine D g (d g e) ?_
  rcases h.2 with⟨rfl,_⟩|⟨g',cap,ac,Y,h2,O,h4⟩
  .cases e
  .subst Y
   cases e
   exact Vah O
 induction h with
 |name n loc b G d h=>exact .name n loc b G (D _ d (Vah h)) h
 |num n loc b G d h=>exact .num n loc b G (D _ d (Vah h)) h
 |fn n x loc b p G d h _ E=>exact .fn n x loc b p G (D _ d (Vah h)) h E
 |ite x y z loc b p q r d h _ _ _ E I i2=>exact .ite x y z loc b p q r (D _ d (Vah h)) h E I i2
 |lt n x y loc b p q G d h _ _ E I=>exact .lt n x y loc b p q G (D _ d (Vah h)) h E I
 |app x y loc b p q d h _ _ E I=>exact .app x y loc b p q (D _ d (Vah h)) h E I
 |pair x y loc b p q d h _ _ E I=>exact .pair x y loc b p q (D _ d (Vah h)) h E I
 |rc names kids y loc b nv T q ps W G d h L J V Z U aa _ _ i j=>exact .rc names kids y loc b nv T q ps W G (D _ d (Vah h)) h L J (M L V) (M J Z) U aa i j
def isXT(e:TypeId):Bool:=e==262||e==265||e==268||e==332||e==273||e==341||e==280||e==283||e==9||e==130
def XKeep(w w':World):Prop:=∀(k:Nat) (d:Array Value) (e:TypeId) (f:Nat×Nat),isXT e=true->w.heap[k]? =some (.cells d e f)->w'.heap[k]? =some (.cells d e f)
theorem XKeep.row(G:XKeep w w')(L:isXT e=true)(h:w.ownsRow B e z v n xs):w'.ownsRow B e z v n xs:=by
 refine⟨h.1,?_⟩
 rcases h.2 with h|⟨g,cap,J,E,I,d,D⟩
 .exact .inl h
 .exact .inr ⟨g,cap,J,E,I,G g _ e _ L d,D⟩
theorem PX.keepT(D:XKeep w w'){t:X}(h:PX w P t v):PX w' P t v:=by
 induction h with
 |name n loc b E d h=>exact .name n loc b E d (D _ _ _ _ (by decide) h)
 |num n loc b E d h=>exact .num n loc b E d (D _ _ _ _ (by decide) h)
 |fn n x loc b p E d h _ G=>exact .fn n x loc b p E d (D _ _ _ _ (by decide) h) G
 |ite x y z loc b p q r d h _ _ _ G I Z=>exact .ite x y z loc b p q r d (D _ _ _ _ (by decide) h) G I Z
 |lt n x y loc b p q E d h _ _ G I=>exact .lt n x y loc b p q E d (D _ _ _ _ (by decide) h) G I
 |app x y loc b p q d h _ _ G I=>exact .app x y loc b p q d (D _ _ _ _ (by decide) h) G I
 |pair x y loc b p q d h _ _ G I=>exact .pair x y loc b p q d (D _ _ _ _ (by decide) h) G I
 |rc names kids y loc b V J q ps Y E d h O L T U M W _ _ i j=>exact .rc names kids y loc b V J q ps Y E d (D _ _ _ _ (by decide) h) (D.row (by decide) O) (D.row (by decide) L) T U M W i j
theorem PX.iface{t:X}(h:PX w P t v):∃T u,v= .iface T u:=by
 cases h<;>exact⟨_,_,rfl⟩
theorem Jil(d:Int)(w:World):Calls prog 284 #[.agg #[.int .i64 d]] w fun e w'=>e= .returned (.int .i64 d)/\Kp (fun _=>False) w w':=by
 go_enter func284,ntmps284
 go_wp2
 go_ret
 exact⟨rfl,(Kp.refl _ _).alloc _⟩
theorem Jpn(b:Nat)(w:World)(D:Array Value)(d:Int)(h:w.heap[b]? =some (.cells D 262 (0,0)))(E:D[0]? =some (.int .i64 d)):(Go.method 538 257 (.pointer (some ⟨b,0,none⟩)) "schemes/infer.depth").run prog w= .ok (284,.agg #[.int .i64 d]) w:=by
 have e:(Go.method 538 257 (.pointer (some ⟨b,0,none⟩)) "schemes/infer.depth").run prog w=((do let v<-loadVar 260 ⟨b,0,none⟩;pure (284,v)):Sem (FuncId×Value)).run prog w:=by kernel_rfl
 rw[e];simp[go_sem,Veu,h,E]
theorem Jpo(b:Nat)(w:World)(D:Array Value)(d:Int)(h:w.heap[b]? =some (.cells D 265 (0,0)))(E:D[0]? =some (.int .i64 d)):(Go.method 538 263 (.pointer (some ⟨b,0,none⟩)) "schemes/infer.depth").run prog w= .ok (284,.agg #[.int .i64 d]) w:=by
 have e:(Go.method 538 263 (.pointer (some ⟨b,0,none⟩)) "schemes/infer.depth").run prog w=((do let v<-loadVar 260 ⟨b,0,none⟩;pure (284,v)):Sem (FuncId×Value)).run prog w:=by kernel_rfl
 rw[e];simp[go_sem,Veu,h,E]
theorem Jpk(b:Nat)(w:World)(D:Array Value)(d:Int)(h:w.heap[b]? =some (.cells D 268 (0,0)))(E:D[0]? =some (.int .i64 d)):(Go.method 538 266 (.pointer (some ⟨b,0,none⟩)) "schemes/infer.depth").run prog w= .ok (284,.agg #[.int .i64 d]) w:=by
 have e:(Go.method 538 266 (.pointer (some ⟨b,0,none⟩)) "schemes/infer.depth").run prog w=((do let v<-loadVar 260 ⟨b,0,none⟩;pure (284,v)):Sem (FuncId×Value)).run prog w:=by kernel_rfl
 rw[e];simp[go_sem,Veu,h,E]
theorem Jpl(b:Nat)(w:World)(D:Array Value)(d:Int)(h:w.heap[b]? =some (.cells D 332 (0,0)))(E:D[0]? =some (.int .i64 d)):(Go.method 538 269 (.pointer (some ⟨b,0,none⟩)) "schemes/infer.depth").run prog w= .ok (284,.agg #[.int .i64 d]) w:=by
 have e:(Go.method 538 269 (.pointer (some ⟨b,0,none⟩)) "schemes/infer.depth").run prog w=((do let v<-loadVar 260 ⟨b,0,none⟩;pure (284,v)):Sem (FuncId×Value)).run prog w:=by kernel_rfl
 rw[e];simp[go_sem,Veu,h,E]
theorem Jpm(b:Nat)(w:World)(D:Array Value)(d:Int)(h:w.heap[b]? =some (.cells D 273 (0,0)))(E:D[0]? =some (.int .i64 d)):(Go.method 538 271 (.pointer (some ⟨b,0,none⟩)) "schemes/infer.depth").run prog w= .ok (284,.agg #[.int .i64 d]) w:=by
 have e:(Go.method 538 271 (.pointer (some ⟨b,0,none⟩)) "schemes/infer.depth").run prog w=((do let v<-loadVar 260 ⟨b,0,none⟩;pure (284,v)):Sem (FuncId×Value)).run prog w:=by kernel_rfl
 rw[e];simp[go_sem,Veu,h,E]
theorem Jpq(b:Nat)(w:World)(D:Array Value)(d:Int)(h:w.heap[b]? =some (.cells D 341 (0,0)))(E:D[0]? =some (.int .i64 d)):(Go.method 538 274 (.pointer (some ⟨b,0,none⟩)) "schemes/infer.depth").run prog w= .ok (284,.agg #[.int .i64 d]) w:=by
 have e:(Go.method 538 274 (.pointer (some ⟨b,0,none⟩)) "schemes/infer.depth").run prog w=((do let v<-loadVar 260 ⟨b,0,none⟩;pure (284,v)):Sem (FuncId×Value)).run prog w:=by kernel_rfl
 rw[e];simp[go_sem,Veu,h,E]
theorem Jpj(b:Nat)(w:World)(D:Array Value)(d:Int)(h:w.heap[b]? =some (.cells D 280 (0,0)))(E:D[0]? =some (.int .i64 d)):(Go.method 538 276 (.pointer (some ⟨b,0,none⟩)) "schemes/infer.depth").run prog w= .ok (284,.agg #[.int .i64 d]) w:=by
 have e:(Go.method 538 276 (.pointer (some ⟨b,0,none⟩)) "schemes/infer.depth").run prog w=((do let v<-loadVar 260 ⟨b,0,none⟩;pure (284,v)):Sem (FuncId×Value)).run prog w:=by kernel_rfl
 rw[e];simp[go_sem,Veu,h,E]
theorem Jpp(b:Nat)(w:World)(D:Array Value)(d:Int)(h:w.heap[b]? =some (.cells D 283 (0,0)))(E:D[0]? =some (.int .i64 d)):(Go.method 538 281 (.pointer (some ⟨b,0,none⟩)) "schemes/infer.depth").run prog w= .ok (284,.agg #[.int .i64 d]) w:=by
 have e:(Go.method 538 281 (.pointer (some ⟨b,0,none⟩)) "schemes/infer.depth").run prog w=((do let v<-loadVar 260 ⟨b,0,none⟩;pure (284,v)):Sem (FuncId×Value)).run prog w:=by kernel_rfl
 rw[e];simp[go_sem,Veu,h,E]
theorem PX.dep{x:X}(h:PX w P x v):∃T u,v= .iface T u/\(Go.method 538 T u "schemes/infer.depth").run prog w= .ok (284,.agg #[.int .i64 (dp x)]) w:=by
 cases h with
 |name n loc b _ _ h=>exact⟨_,_,rfl,Jpn b w _ _ h (by simp[dp,dps])⟩
 |num n loc b _ _ h=>exact⟨_,_,rfl,Jpo b w _ _ h (by simp[dp,dps])⟩
 |fn n x loc b p _ _ h=>exact⟨_,_,rfl,Jpk b w _ _ h (by simp[dp,dps])⟩
 |ite x y z loc b p q r _ h=>exact⟨_,_,rfl,Jpl b w _ _ h (by simp[dp,dps])⟩
 |lt n x y loc b p q _ _ h=>exact⟨_,_,rfl,Jpm b w _ _ h (by simp[dp,dps])⟩
 |rc names kids y loc b D d q ps _ _ _ h=>exact⟨_,_,rfl,Jpq b w _ _ h (by simp[dp,Jb1])⟩
 |app x y loc b p q _ h=>exact⟨_,_,rfl,Jpj b w _ _ h (by simp[dp,dps])⟩
 |pair x y loc b p q _ h=>exact⟨_,_,rfl,Jpp b w _ _ h (by simp[dp,dps])⟩
theorem PX.kp{x:X}(h:PX w P x v)(k:Kp (fun _=>False) w w'):PX w' P x v:=h.keep (fun b _ d=>k.block b d (fun z=>z))
theorem Jc7(xs:List X)(ps:List Value)(g c:Nat)(w:World)(P:Nat->Prop)(T:ps.length=xs.length)(I:∀j,j<ps.length->w.cell? ⟨g,j,none⟩=ps[j]?)(L:∀(j:Nat) (x:X) (p:Value),xs[j]? =some x->ps[j]? =some p->PX w P x p)(hb:ps.length<=1000000)(hd:dps xs<=1000000):
  Calls prog 175 #[.slice (some ⟨g,0,none⟩) ps.length c] w fun e w'=>e= .returned (.agg #[.int .i64 (dps xs+1:Nat)])/\Kp (fun _=>False) w w':=by
 have U:Hid (ps.length=xs.length):=T;clear T
 go_enter func175,ntmps175
 go_wp2
 have D:Kp (fun _=>False) w (w.alloc (.cells #[.int .i64 0] 260)):=(Kp.refl _ _).alloc _;have Y:(w.alloc (.cells #[.int .i64 0] 260)).heap[w.heap.size]? =some (.cells #[.int .i64 0] 260 (0,0)):=Vag _ _;generalize w.alloc (.cells #[.int .i64 0] 260)=w0 at*
 go_loopw [3,8] (fun d i wr=>Kp (fun _=>False) w0 wr/\∃q:Nat,q<=ps.length/\i= .int .i64 q/\d= .int .i64 (dps (xs.take q))) (fun _ i _=>ps.length-(intOf i).toNat)
 case atStart=>exact⟨Kp.refl _ _,0,VaN _,rfl,by simp[dps]⟩
 case round=>
  obtain⟨h,q,hq,rfl,rfl⟩:=hrel
  by_cases E:q<ps.length
  .have M:q<xs.length:=by rw[<-U.out];exact E
   have W:=(L q xs[q] ps[q] (by simp[M]) (by simp[E])).kp (D.trans h);obtain⟨af,u,O,hm⟩:=W.dep;have J:=I q E;rw[Vav E,O]at J;have hc:=(D.trans h).cell J
   have aa:Hid (dps (xs.take (q+1))=max (dps (xs.take q)) (dp xs[q])):=by
    show _=_;rw[Va9 M,Jb1]
   have ac:=JjE (Vbw M);have ae:=Jel xs q;clear W J O L I D;generalize dp xs[q]=d at*;generalize dps (xs.take q)=nq at*
   go_wp2_with (go_at_call 284;refine(Jil _ _).mono ?_;rintro e w1 ⟨rfl,Z⟩)
   refine⟨⟨h.trans Z,q+1,by omega,by go_num,?_⟩,by simp[intOf];omega⟩
   rw[aa.out];congr 1
   split<;>omega
  .have V:q=xs.length:=by rw[<-U.out];omega
   have hk:Hid (xs.take q=xs):=by show _=_;rw[V,VbA]
   have ac:=Jel xs q;have G:=h.blk Y (fun z=>z);have r0:wr.cell? ⟨w.heap.size,0,none⟩=some (.int .i64 0):=by simp[Veu,G]
   have f0:wr.frozen? ⟨w.heap.size,0,none⟩=false:=by simp[Vev,G]
   clear L I V;have d0:(wr.setCell ⟨w.heap.size,0,none⟩ (.int .i64 ((dps (xs.take q):Nat)+1))).cell? ⟨w.heap.size,0,none⟩=some (.int .i64 ((dps (xs.take q):Nat)+1)):=by simp[Veu,Vet,G,Vay]
   have hF:Kp (fun _=>False) w (wr.setCell ⟨w.heap.size,0,none⟩ (.int .i64 ((dps (xs.take q):Nat)+1))):=(D.trans h).setCell _ _ (fun z=>by simp at z);clear G Y
   go_wp2
   exact VaI (v:= .agg #[.int .i64 ((dps (xs.take q):Nat)+1)]) (by simp[results,results175,go_sem,d0]) rfl ⟨by rw[hk.out];rfl,hF⟩
theorem Je1(w:World):Calls prog 175 #[.slice none 0 0] w fun e w'=>e= .returned (.agg #[.int .i64 1])/\Kp (fun _=>False) w w':=by
 go_enter func175,ntmps175
 go_wp2
 have h:Kp (fun _=>False) w (w.alloc (.cells #[.int .i64 0] 260)):=(Kp.refl _ _).alloc _;have d:(w.alloc (.cells #[.int .i64 0] 260)).heap[w.heap.size]? =some (.cells #[.int .i64 0] 260 (0,0)):=Vag _ _;generalize w.alloc (.cells #[.int .i64 0] 260)=wr at*;have G:wr.cell? ⟨w.heap.size,0,none⟩=some (.int .i64 0):=by simp[Veu,d]
 have E:wr.frozen? ⟨w.heap.size,0,none⟩=false:=by simp[Vev,d]
 have D:(wr.setCell ⟨w.heap.size,0,none⟩ (.int .i64 1)).cell? ⟨w.heap.size,0,none⟩=some (.int .i64 1):=by simp[Veu,Vet,d,Vay]
 have hF:Kp (fun _=>False) w (wr.setCell ⟨w.heap.size,0,none⟩ (.int .i64 1)):=h.setCell _ _ (fun z=>by simp at z);clear d;refine VaO 1 ?_
 rw[VaB]
 go_wp2
 exact VaI (v:= .agg #[.int .i64 1]) (by simp[results,results175,go_sem,D]) rfl ⟨rfl,hF⟩
structure Glb(A:Nat->Addr)(w:World):Prop where
 blk:∀k,k<8->∃c t,w.heap[(A k).block]? =some (.cells c t (0,0))
 ne:∀i j,i<8->j<8->i≠j->A i≠A j
 c0:w.cell? ⟨0,0,none⟩=some (.iface 407 (.pointer (some (A 0))))
 c1:w.cell? ⟨1,0,none⟩=some (.iface 407 (.pointer (some (A 1))))
 c2:w.cell? ⟨2,0,none⟩=some (.iface 407 (.pointer (some (A 2))))
 c3:w.cell? ⟨3,0,none⟩=some (.iface 407 (.pointer (some (A 3))))
 c4:w.cell? ⟨4,0,none⟩=some (.iface 407 (.pointer (some (A 4))))
 c5:w.cell? ⟨5,0,none⟩=some (.iface 407 (.pointer (some (A 5))))
 c6:w.cell? ⟨6,0,none⟩=some (.iface 407 (.pointer (some (A 6))))
 c7:w.cell? ⟨7,0,none⟩=some (.iface 407 (.pointer (some (A 7))))
 et:w.cell? ⟨8,0,none⟩=some (.iface 286 (.agg #[.pointer (some ⟨13,72,none⟩)]))
theorem Glb.below(h:Glb A w)(D:Below w.heap.size w w'):Glb A w':=by
 have d:∀{a:Addr} {v:Value},w.cell? a=some v->w'.cell? a=some v:=fun{a v} e=>(D.cell (Vaw _ _ e)).trans e
 refine⟨fun k E=> ?_,h.ne,d h.c0,d h.c1,d h.c2,d h.c3,d h.c4,d h.c5,d h.c6,d h.c7,d h.et⟩
 obtain⟨c,t,e⟩:=h.blk k E;exact⟨c,t,(D.block _ (Vah e)).trans e⟩
def Jaa(what loc:Int)(s:BA):Value:= .agg #[.int .i64 what,.int .i64 loc,.string s,.int .i64 0,.int .i64 0]
def Jdr(j:Nat):Int:= [1,3,6,7,8,9,10,11].getD j (-1)
def fltW(w:World):World:=(((w.alloc (.cells #[.int .i64 0,.int .i64 0,.string ⟨#[]⟩,.int .i64 0,.int .i64 0] 23)).alloc (.cells #[.pointer none] 134)).alloc (.cells #[.pointer none] 135)).alloc (.cells #[.pointer none] 136)
theorem Jen(w:World):(fltW w).heap.size=w.heap.size+4:=by simp[fltW]
theorem JcO(w:World):Below w.heap.size w (fltW w):=((((Vbh _ _).alloc (by simp) _).alloc (by simp) _).alloc (by simp;omega) _).alloc (by simp;omega) _
theorem Jh7(w:World):(fltW w).heap[w.heap.size]? =some (.cells #[.int .i64 0,.int .i64 0,.string ⟨#[]⟩,.int .i64 0,.int .i64 0] 23 (0,0)):=by
 unfold fltW;rw[VaA _ _ _ (by simp;omega),VaA _ _ _ (by simp;omega),VaA _ _ _ (by simp)];exact Vag _ _
theorem JqQ(w:World):(fltW w).heap[w.heap.size+1]? =some (.cells #[.pointer none] 134 (0,0)):=by
 unfold fltW;rw[VaA _ _ _ (by simp),VaA _ _ _ (by simp)];have:=Vag (w.alloc (.cells #[.int .i64 0,.int .i64 0,.string ⟨#[]⟩,.int .i64 0,.int .i64 0] 23)) (.cells #[.pointer none] 134);simpa using this
def Jco(w:World)(fb:Nat)(d E h G D:Value):World:=((((w.setCell ⟨fb,0,none⟩ d).setCell ⟨fb,1,none⟩ E).setCell ⟨fb,2,none⟩ h).setCell ⟨fb,3,none⟩ G).setCell ⟨fb,4,none⟩ D
variable {fb:Nat}{b c d:Value}
theorem JdC{a e:Value}{t:TypeId}(h:w.heap[fb]? =some (.cells #[a,b,c,d,e] t (0,0)))(D I E J G:Value):(Jco w fb D I E J G).heap[fb]? =some (.cells #[D,I,E,J,G] t (0,0)):=by
 simp[Jco,Vet,h,Vay]
variable {a:World}
theorem Jct(h:Below B a w)(d:B<=fb)(D I E J G:Value):Below B a (Jco w fb D I E J G):=
 ((((h.setCell (by simpa using d) _).setCell (by simpa using d) _).setCell (by simpa using d) _).setCell (by simpa using d) _).setCell (by simpa using d) _
theorem Jc8(w:World):Calls prog 37 #[.nilIface] w fun e w'=>e= .returned (Jaa 0 0 ⟨#[]⟩)/\Below w.heap.size w w':=by
 go_enter Vep,Vec
 go_wp2_with (go_at_call 71;refine(Jqw _ _).mono ?_;rintro e w' ⟨rfl,D⟩;rw[D];clear D w')
 change bodyPost _ _ _ _ _ (fltW w)
 have h:=Jh7 w;have G:=JcO w;generalize fltW w=d at*;have M:d.cell? ⟨w.heap.size,0,none⟩=some (.int .i64 0):=by simp[Veu,h]
 have E:d.cell? ⟨w.heap.size,1,none⟩=some (.int .i64 0):=by simp[Veu,h]
 have J:d.cell? ⟨w.heap.size,2,none⟩=some (.string ⟨#[]⟩):=by simp[Veu,h]
 have I:d.cell? ⟨w.heap.size,3,none⟩=some (.int .i64 0):=by simp[Veu,h]
 have L:d.cell? ⟨w.heap.size,4,none⟩=some (.int .i64 0):=by simp[Veu,h]
 exact VaI (v:=Jaa 0 0 ⟨#[]⟩) (by simp[results,VdG,go_sem,Jaa,M,E,J,I,L]) rfl ⟨rfl,G⟩
theorem Jc9(w:World)(hG:Glb A w)(a:Addr)(loc:Int)(U:w.cell? a=some (.int .i64 loc)):
  Calls prog 37 #[.iface 134 (.pointer (some a))] w fun e w'=>e= .returned (Jaa 2 loc ⟨#[]⟩)/\Below w.heap.size w w':=by
 have T:=JcO w;have hr:=Jh7 w;have hs:=JqQ w;have hz:=Jen w;have O:=(hG.below T).et;have aa:(fltW w).cell? a=some (.int .i64 loc):=(T.cell (Vaw _ _ U)).trans U;have ah:=Vaw _ _ U;clear hG U
 go_enter Vep,Vec
 go_wp2_with fail
 change Calls _ _ _ (fltW w) _
 generalize fltW w=w1 at*;refine(Jdz Jlq JnX JiZ _ _ _ O).mono ?_
 rintro e h ⟨rfl,D⟩;have E:Below w1.heap.size w1 h:=by rw[D];exact(((Vbh _ _).alloc (by simp) _).alloc (by simp) _).alloc (by simp;omega) _
 clear D;have ao:=E.size;have af:=(E.cell (Vaw _ _ O)).trans O;have ac:=(E.block _ (by omega)).trans hr;have M:=(E.block _ (by omega)).trans hs;have ae:=(E.cell (Vaw _ _ aa)).trans aa;have aj:=T.trans (E.mono (by omega));clear T E O hr hs aa
 go_wp2_with fail
 have ai:h.cell? ⟨w.heap.size+1,0,none⟩=some (.pointer none):=by simp[Veu,M]
 have ag:h.frozen? ⟨w.heap.size+1,0,none⟩=false:=by simp[Vev,M]
 refine(JnI Jlr JnX.z JqX a _ _ h ai ag af).mono ?_
 rintro e d ⟨rfl,D⟩;have I:Below h.heap.size h ((((h.alloc (.cells #[.pointer (some ⟨w.heap.size+1,0,none⟩)] 143)).alloc (.cells #[.pointer (some ⟨13,143,none⟩),.pointer (some ⟨h.heap.size,0,none⟩),.int .u64 150] 193)).alloc (.cells #[.pointer (some ⟨13,143,none⟩),.pointer (some ⟨h.heap.size,0,none⟩),.int .u64 150] 193)).alloc (.cells #[.pointer (some a)] 134)):=((((Vbh _ _).alloc (by simp) _).alloc (by simp) _).alloc (by simp;omega) _).alloc (by simp;omega) _;generalize(((h.alloc (.cells #[.pointer (some ⟨w.heap.size+1,0,none⟩)] 143)).alloc (.cells #[.pointer (some ⟨13,143,none⟩),.pointer (some ⟨h.heap.size,0,none⟩),.int .u64 150] 193)).alloc (.cells #[.pointer (some ⟨13,143,none⟩),.pointer (some ⟨h.heap.size,0,none⟩),.int .u64 150] 193)).alloc (.cells #[.pointer (some a)] 134)=al at*;have an:=I.size;have G:d.heap[w.heap.size]? =some (.cells #[.int .i64 0,.int .i64 0,.string ⟨#[]⟩,.int .i64 0,.int .i64 0] 23 (0,0)):=by rw[D,Vaj _ _ _ _ (by show w.heap.size≠w.heap.size+1;omega),I.block _ (by omega)];exact ac
 have aq:d.cell? ⟨w.heap.size+1,0,none⟩=some (.pointer (some a)):=by
  rw[D];have:al.heap[w.heap.size+1]? =some (.cells #[.pointer none] 134 (0,0)):=(I.block _ (by omega)).trans M;simp[Veu,Vet,this,Vay]
 have au:d.cell? a=some (.int .i64 loc):=by
  rw[D,Vax _ _ _ _ (fun e=>by rw[<-e]at ah;simp at ah;omega),I.cell (by omega)];exact ae
 have am:Below w.heap.size w d:=by
  rw[D];exact(aj.trans (I.mono (by omega))).setCell (by simp) _
 clear D I aj af ac M ae ai ag;clear hz ao an;have Y:d.cell? ⟨w.heap.size,0,none⟩=some (.int .i64 0):=by simp[Veu,G]
 have V:d.cell? ⟨w.heap.size,1,none⟩=some (.int .i64 0):=by simp[Veu,G]
 have W:d.cell? ⟨w.heap.size,2,none⟩=some (.string ⟨#[]⟩):=by simp[Veu,G]
 have Z:d.cell? ⟨w.heap.size,3,none⟩=some (.int .i64 0):=by simp[Veu,G]
 have d4:d.cell? ⟨w.heap.size,4,none⟩=some (.int .i64 0):=by simp[Veu,G]
 have fz:∀i,d.frozen? ⟨w.heap.size,i,none⟩=false:=fun i=>by simp[Vev,G]
 go_wp2
 change bodyPost _ _ _ _ _ (Jco d w.heap.size (.int .i64 2) (.int .i64 loc) (.string ⟨#[]⟩) (.int .i64 0) (.int .i64 0))
 have J:=JdC G (.int .i64 2) (.int .i64 loc) (.string ⟨#[]⟩) (.int .i64 0) (.int .i64 0);have ak:=Jct am (Vau _) (.int .i64 2) (.int .i64 loc) (.string ⟨#[]⟩) (.int .i64 0) (.int .i64 0);generalize Jco d w.heap.size (.int .i64 2) (.int .i64 loc) (.string ⟨#[]⟩) (.int .i64 0) (.int .i64 0)=L at*;clear Y V W Z d4;have Y:L.cell? ⟨w.heap.size,0,none⟩=some (.int .i64 2):=by simp[Veu,J]
 have V:L.cell? ⟨w.heap.size,1,none⟩=some (.int .i64 loc):=by simp[Veu,J]
 have W:L.cell? ⟨w.heap.size,2,none⟩=some (.string ⟨#[]⟩):=by simp[Veu,J]
 have Z:L.cell? ⟨w.heap.size,3,none⟩=some (.int .i64 0):=by simp[Veu,J]
 have d4:L.cell? ⟨w.heap.size,4,none⟩=some (.int .i64 0):=by simp[Veu,J]
 exact VaI (v:=Jaa 2 loc ⟨#[]⟩) (by simp[results,VdG,go_sem,Jaa,Y,V,W,Z,d4]) rfl ⟨rfl,ak⟩
structure Kept(w w':World):Prop where
 os:w'.os=w.os
 output:w'.output=w.output
 size:w.heap.size<=w'.heap.size
 block:∀k,k<w.heap.size->w'.heap[k]? =w.heap[k]?
theorem Kept.refl(w:World):Kept w w:=⟨rfl,rfl,Vau _,fun _ _=>rfl⟩
theorem Kept.trans{b c:World}(h:Kept a b)(k:Kept b c):Kept a c:=⟨k.os.trans h.os,k.output.trans h.output,Vas h.size k.size,fun i d=>(k.block i (Va6 d h.size)).trans (h.block i d)⟩
theorem Kept.below(h:Below w.heap.size w w'):Kept w w':=⟨h.os,h.output,h.size,h.block⟩
theorem Kept.alike(h:w'.Alike w):Kept w w':=⟨h.2.1,h.2.2,by rw[h.1];exact Vau _,fun k _=>by rw[h.1]⟩
theorem Kept.cell(h:Kept w w'){a:Addr}(e:w.cell? a=some v):w'.cell? a=some v:=(VaH (h.block a.block (Vaw _ _ e))).trans e
variable {k:Nat}{o:Obj}
theorem Kept.blk(h:Kept w w')(e:w.heap[k]? =some o):w'.heap[k]? =some o:=(h.block k (Vah e)).trans e
theorem Glb.kept(h:Glb A w)(d:Kept w w'):Glb A w':=by
 refine⟨fun k D=> ?_,h.ne,d.cell h.c0,d.cell h.c1,d.cell h.c2,d.cell h.c3,d.cell h.c4,d.cell h.c5,d.cell h.c6,d.cell h.c7,d.cell h.et⟩
 obtain⟨c,t,e⟩:=h.blk k D;exact⟨c,t,d.blk e⟩
theorem Glb.is(h:Glb A w)(i j:Nat)(d:i<8)(D:j<8):
  Calls prog 73 #[.iface 407 (.pointer (some (A i))),.iface 407 (.pointer (some (A j)))] w fun e w'=>e= .returned (.bool (decide (i=j)))/\w'=w:=by
 by_cases e:i=j
 .subst e;have:decide (i=i)=true:=by simp
  rw[this];exact Jo0 _ _
 .obtain⟨c,t,J⟩:=h.blk i d;obtain⟨E,G,I⟩:=h.blk j D;have:decide (i=j)=false:=by simp[e]
  rw[this];exact Jma _ _ c E t G w (h.ne i j d D e) J I
def senE(A:Nat->Addr)(j:Nat):MapEntry:={key:= .int .i64 (Jdr j),val:= .iface 407 (.pointer (some (A j))),born:=j}
def JaF(A:Nat->Addr)(n:Nat):Array MapEntry:=((List.range n).map (senE A)).toArray
theorem Jjg(A:Nat->Addr)(n:Nat):(JaF A n).push (senE A n)=JaF A (n+1):=by
 simp[JaF,Vdi]
theorem JgS{e:MapEntry}(h:e∈(JaF A n).toList):∃i,i<n/\e=senE A i:=by
 simp[JaF]at h;obtain⟨i,d,rfl⟩:=h;exact⟨i,d,rfl⟩
theorem JhF(A:Nat->Addr)(n:Nat):((JaF A n).toList.map (·.born)).Nodup:=by
 have:(JaF A n).toList.map (·.born)=List.range n:=by
  simp only[JaF,Vdk];exact List.map_id'' (fun x=>rfl) _
 rw[this];exact VdJ
theorem Je0{P:Program}(w:World)(I kt L:TypeId)(D:Array MapEntry)(d:Nat)(k:Int)(val:Value)(T:P.underlying I=some (.map kt L))(E:P.underlying kt=some (.int .i64))(V:Instr.findNow (.int .i64) (.int .i64 k) D.toList 0=some none)(O:MapKept.IsKey (.int .i64) (.int .i64 k)):
  (Vew I (.map (some w.heap.size)) (.int .i64 k) val).run P (w.alloc (.map D d))= .ok () (w.alloc (.map (D.push {key:= .int .i64 k,val:=val,born:=d}) (d+1))):=by
 have G:(w.alloc (.map D d)).heap[w.heap.size]? =some (.map D d):=Vag _ _;have U:(Instr.checkKey false 10000 kt (.int .i64 k)).run P (w.alloc (.map D d))= .ok () (w.alloc (.map D d)):=Vbz E O false 9999
 have J:({w.alloc (.map D d)with heap:=(w.alloc (.map D d)).heap.setIfInBounds w.heap.size (.map (D.push {key:= .int .i64 k,val:=val,born:=d}) (d+1))}:World)=w.alloc (.map (D.push {key:= .int .i64 k,val:=val,born:=d}) (d+1)):=by
  have h:(w.heap.push (.map D d)).setIfInBounds w.heap.size (.map (D.push {key:= .int .i64 k,val:=val,born:=d}) (d+1))=w.heap.push (.map (D.push {key:= .int .i64 k,val:=val,born:=d}) (d+1)):=by
   apply Array.ext_getElem?
   intro i;rw[VdN,Array.getElem?_push,Array.getElem?_push]
   by_cases e:w.heap.size=i
   .subst e;simp
   .have M:i≠w.heap.size:=fun q=>e q.symm
    simp[e,M]
  show({w with heap:=(w.heap.push (.map D d)).setIfInBounds w.heap.size _}:World)={w with heap:=w.heap.push _};rw[h]
 simp only[Vew,Va8,VaM T,VaQ G,U,VbC E V,VbB _ G,Result.andThen];simpa using J
theorem JaX(A:Nat->Addr)(w:World)(j:Nat)(d:j<8):
  (Vew 149 (.map (some w.heap.size)) (.int .i64 (Jdr j)) (.iface 407 (.pointer (some (A j))))).run prog (w.alloc (.map (JaF A j) j))= .ok () (w.alloc (.map (JaF A (j+1)) (j+1))):=by
 rw[<-Jjg];refine Je0 w 149 3 72 _ _ _ _ underlying149 underlying3 ?_ ?_
 .match j,d with
  |0,_=>rfl
  |1,_=>rfl
  |2,_=>rfl
  |3,_=>rfl
  |4,_=>rfl
  |5,_=>rfl
  |6,_=>rfl
  |7,_=>rfl
 .simp[MapKept.IsKey]
theorem Jbs(w:World)(hG:Glb A w)(j:Nat)(hj:j<8):
  Calls prog 37 #[.iface 407 (.pointer (some (A j)))] w fun e w'=>e= .returned (Jaa (Jdr j) 0 ⟨#[]⟩)/\Kept w w':=by
 have hB:=JcO w;have hr:=Jh7 w;have hz:=Jen w;have ak:=hG.below hB;clear hG
 go_enter Vep,Vec
 go_wp2_with fail
 change Calls _ _ _ (fltW w) _
 generalize fltW w=w1 at*;refine(Jdz Jlq JoL Jkq _ _ _ ak.et).mono ?_
 rintro e w2 ⟨rfl,G⟩;have D:Below w1.heap.size w1 w2:=by rw[G];exact(((Vbh _ _).alloc (by simp) _).alloc (by simp) _).alloc (by simp;omega) _
 clear G;have aL:=D.size;have ag:=ak.below D;have al:=(D.block _ (by omega)).trans hr;have aA:=hB.trans (D.mono (by omega));clear hB D ak hr
 go_wp2_with fail
 refine(Jdz Jlr JoL Jkr _ _ _ ag.et).mono ?_
 rintro e w3 ⟨rfl,G⟩;have D:Below w2.heap.size w2 w3:=by rw[G];exact(((Vbh _ _).alloc (by simp) _).alloc (by simp) _).alloc (by simp;omega) _
 clear G;have aD:=D.size;have ac:=ag.below D;have ay:=(D.block _ (by omega)).trans al;have ax:=aA.trans (D.mono (by omega));clear aA D ag al
 go_wp2_with fail
 refine(Jdz Jol JoL Jks _ _ _ ac.et).mono ?_
 rintro e d ⟨rfl,G⟩;have D:Below w3.heap.size w3 d:=by rw[G];exact(((Vbh _ _).alloc (by simp) _).alloc (by simp) _).alloc (by simp;omega) _
 clear G;have aK:=D.size;have I:=ac.below D;have an:=(D.block _ (by omega)).trans ay;have az:=ax.trans (D.mono (by omega));clear ax D ac ay;have aP:w.heap.size+4<=d.heap.size:=by omega
 clear hz aL aD aK;have J:∀(g:Nat) (v:Value),d.cell? ⟨g,0,none⟩=some v->∀o,(d.alloc o).cell? ⟨g,0,none⟩=some v:=fun g v e o=>(VaH (VaA d o g (Vaw _ _ e))).trans e
 have c0:=J _ _ I.c0;have c1:=J _ _ I.c1;have c2:=J _ _ I.c2;have c3:=J _ _ I.c3;have c4:=J _ _ I.c4;have c5:=J _ _ I.c5;have c6:=J _ _ I.c6;have c7:=J _ _ I.c7;clear J;have aI:(Instr.makeMap 149 none).run prog d= .ok (.map (some d.heap.size)) (d.alloc (.map #[] 0)):=rfl;have i0:(Vew 149 (.map (some d.heap.size)) (.int .i64 1) (.iface 407 (.pointer (some (A 0))))).run prog (d.alloc (.map #[] 0))= .ok () (d.alloc (.map (JaF A 1) 1)):=JaX A d 0 (by decide);have i1:(Vew 149 (.map (some d.heap.size)) (.int .i64 3) (.iface 407 (.pointer (some (A 1))))).run prog (d.alloc (.map (JaF A 1) 1))= .ok () (d.alloc (.map (JaF A 2) 2)):=JaX A d 1 (by decide);have i2:(Vew 149 (.map (some d.heap.size)) (.int .i64 6) (.iface 407 (.pointer (some (A 2))))).run prog (d.alloc (.map (JaF A 2) 2))= .ok () (d.alloc (.map (JaF A 3) 3)):=JaX A d 2 (by decide);have i3:(Vew 149 (.map (some d.heap.size)) (.int .i64 7) (.iface 407 (.pointer (some (A 3))))).run prog (d.alloc (.map (JaF A 3) 3))= .ok () (d.alloc (.map (JaF A 4) 4)):=JaX A d 3 (by decide);have i4:(Vew 149 (.map (some d.heap.size)) (.int .i64 8) (.iface 407 (.pointer (some (A 4))))).run prog (d.alloc (.map (JaF A 4) 4))= .ok () (d.alloc (.map (JaF A 5) 5)):=JaX A d 4 (by decide);have i5:(Vew 149 (.map (some d.heap.size)) (.int .i64 9) (.iface 407 (.pointer (some (A 5))))).run prog (d.alloc (.map (JaF A 5) 5))= .ok () (d.alloc (.map (JaF A 6) 6)):=JaX A d 5 (by decide);have i6:(Vew 149 (.map (some d.heap.size)) (.int .i64 10) (.iface 407 (.pointer (some (A 6))))).run prog (d.alloc (.map (JaF A 6) 6))= .ok () (d.alloc (.map (JaF A 7) 7)):=JaX A d 6 (by decide);have i7:(Vew 149 (.map (some d.heap.size)) (.int .i64 11) (.iface 407 (.pointer (some (A 7))))).run prog (d.alloc (.map (JaF A 7) 7))= .ok () (d.alloc (.map (JaF A 8) 8)):=JaX A d 7 (by decide);have aq:(d.alloc (.map (JaF A 8) 8)).heap[d.heap.size]? =some (.map (JaF A 8) 8):=Vag _ _;have aa:Kept d (d.alloc (.map (JaF A 8) 8)):=Kept.below ((Vbh _ _).alloc (by simp) _);have aJ:=I.kept aa;have aH:=aa.blk an;have aG:=(Kept.below az).trans aa;clear I an az aa;have aM:=run_range_map (P:=prog) (d.alloc (.map (JaF A 8) 8)) 149 3 72 d.heap.size (JaF A 8) 8 underlying149 aq
 go_wp2_with fail
 have h5:(d.alloc (.map (JaF A 8) 8)).heap.size=d.heap.size+1:=by simp
 generalize d.alloc (.map (JaF A 8) 8)=w5 at*;clear c0 c1 c2 c3 c4 c5 c6 c7 i0 i1 i2 i3 i4 i5 i6 i7 aI;generalize d.heap.size=h at*
 go_loopw [] (fun w'=>∃(L:World) (seen:Array Nat),L.Alike w5/\w'=L.alloc (.mapIter (some h) 8 seen 8)/\seen.contains j=false) (fun w'=>(leftOf (JaF A 8) (w'.iterSeen (h+1))).size)
 case atStart=>exact⟨w5,#[],⟨rfl,rfl,rfl⟩,rfl,by simp⟩
 case round=>
  obtain⟨L,seen,T,rfl,aB⟩:=hrel;have au:L.heap.size=h+1:=by rw[T.1,h5]
  have ao:L.heap[h]? =some (.map (JaF A 8) 8):=by rw[T.1];exact aq
  have aw:=run_next_map (P:=prog) L 0 h 8 8 seen (JaF A 8) 8 ao (fun x hx=>by obtain⟨i,Y,rfl⟩:=JgS hx;exact Y) (Vau _);rw[au]at aw
  rcases aw with⟨h0,ae⟩|⟨e,he,E,W,ae⟩
  .exfalso;have aC:senE A j∈(JaF A 8).toList:=by simp[JaF];exact⟨j,hj,rfl⟩
   have:=all_seen (JaF A 8) seen h0 _ aC;have O:seen.contains j=true:=this;rw[aB]at O
   cases O
  .obtain⟨i,Y,rfl⟩:=JgS (mem_left he).1;have aO:∀ty,(Instr.next (.pointer (some ⟨h+1,0,none⟩)) false ty).run prog (L.alloc (.mapIter (some h) 8 seen 8))= .ok (.tuple #[.bool true,.int .i64 (Jdr i),.iface 407 (.pointer (some (A i)))]) (E.alloc (.mapIter (some h) 8 (seen.push i) 8)):=fun _=>ae
   have af:E.heap.size=h+1:=by rw[W.1,T.1,h5]
   have aF:E.heap[h]? =some (.map (JaF A 8) 8):=by rw[W.1];exact ao
   have ah:=run_entry_map (P:=prog) E h 8 seen (JaF A 8) 8 (senE A i) aF (mem_left he).1 (JhF A 8);rw[af]at ah;have aN:(Instr.entry (.pointer (some ⟨h+1,0,none⟩))).run prog (E.alloc (.mapIter (some h) 8 (seen.push i) 8))= .ok (.tuple #[.int .i64 (Jdr i),.iface 407 (.pointer (some (A i)))]) (E.alloc (.mapIter (some h) 8 (seen.push i) 8)):=ah;clear ah ae;have av:E.Alike w5:=⟨W.1.trans T.1,W.2.1.trans T.2.1,W.2.2.trans T.2.2⟩
   have ai:Kept w5 (E.alloc (.mapIter (some h) 8 (seen.push i) 8)):=(Kept.alike av).trans (Kept.below ((Vbh _ _).alloc (by simp) _));have am:=aJ.kept ai;have M:=ai.blk aH;have d0:(E.alloc (.mapIter (some h) 8 (seen.push i) 8)).cell? ⟨w.heap.size,0,none⟩=some (.int .i64 0):=by simp only[Veu,M];rfl
   have d1:(E.alloc (.mapIter (some h) 8 (seen.push i) 8)).cell? ⟨w.heap.size,1,none⟩=some (.int .i64 0):=by simp only[Veu,M];rfl
   have d2:(E.alloc (.mapIter (some h) 8 (seen.push i) 8)).cell? ⟨w.heap.size,2,none⟩=some (.string ⟨#[]⟩):=by simp only[Veu,M];rfl
   have d3:(E.alloc (.mapIter (some h) 8 (seen.push i) 8)).cell? ⟨w.heap.size,3,none⟩=some (.int .i64 0):=by simp only[Veu,M];rfl
   have d4:(E.alloc (.mapIter (some h) 8 (seen.push i) 8)).cell? ⟨w.heap.size,4,none⟩=some (.int .i64 0):=by simp only[Veu,M];rfl
   have fz:∀q,(E.alloc (.mapIter (some h) 8 (seen.push i) 8)).frozen? ⟨w.heap.size,q,none⟩=false:=fun q=>by simp only[Vev,M];rfl
   by_cases aj:j=i
   .subst aj;have hd:decide (j=j)=true:=by simp
    go_wp2_with (go_at_call 73;refine(am.is j j hj Y).mono ?_;rintro e w' ⟨rfl,G⟩;rw[G,hd];clear G w')
    generalize E.alloc (.mapIter (some h) 8 (seen.push j) 8)=w6 at*
    change bodyPost _ _ _ _ _ (Jco w6 w.heap.size (.int .i64 (Jdr j)) (.int .i64 0) (.string ⟨#[]⟩) (.int .i64 0) (.int .i64 0))
    have U:=JdC M (.int .i64 (Jdr j)) (.int .i64 0) (.string ⟨#[]⟩) (.int .i64 0) (.int .i64 0)
    have aE:Kept w (Jco w6 w.heap.size (.int .i64 (Jdr j)) (.int .i64 0) (.string ⟨#[]⟩) (.int .i64 0) (.int .i64 0)):=by
     have Z:=aG.trans ai;have O:=Jct (Vbh w.heap.size w6) (Vau _) (.int .i64 (Jdr j)) (.int .i64 0) (.string ⟨#[]⟩) (.int .i64 0) (.int .i64 0);exact⟨O.os.trans Z.os,O.output.trans Z.output,Vas Z.size O.size,fun q hq=>(O.block q hq).trans (Z.block q hq)⟩
    generalize Jco w6 w.heap.size (.int .i64 (Jdr j)) (.int .i64 0) (.string ⟨#[]⟩) (.int .i64 0) (.int .i64 0)=V at*;clear d0 d1 d2 d3 d4;have d0:V.cell? ⟨w.heap.size,0,none⟩=some (.int .i64 (Jdr j)):=by simp[Veu,U]
    have d1:V.cell? ⟨w.heap.size,1,none⟩=some (.int .i64 0):=by simp[Veu,U]
    have d2:V.cell? ⟨w.heap.size,2,none⟩=some (.string ⟨#[]⟩):=by simp[Veu,U]
    have d3:V.cell? ⟨w.heap.size,3,none⟩=some (.int .i64 0):=by simp[Veu,U]
    have d4:V.cell? ⟨w.heap.size,4,none⟩=some (.int .i64 0):=by simp[Veu,U]
    exact VaI (v:=Jaa (Jdr j) 0 ⟨#[]⟩) (by simp[results,VdG,go_sem,Jaa,d0,d1,d2,d3,d4]) rfl ⟨rfl,aE⟩
   .have hd:decide (j=i)=false:=by simp[aj]
    go_wp2_with (go_at_call 73;refine(am.is j i hj Y).mono ?_;rintro e w' ⟨rfl,G⟩;rw[G,hd];clear G w')
    go_roundw
    case rel=>exact⟨E,seen.push i,av,rfl,by rw[contains_push,aB];simp[aj]⟩
    case measure=>
     rw[<-af,Ven,af,<-au,Ven];exact left_shrinks (JaF A 8) seen (senE A i) he
end Go.Proofs.YtleenphlgbklmaaGreatDoor
