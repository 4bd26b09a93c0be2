import Derived.Test.YtleenphlgbklmaaGreatDoorACPSign
set_option linter.unusedVariables false
set_option linter.unusedSimpArgs false
set_option maxRecDepth 100000
set_option maxHeartbeats 8000000
namespace Go.Proofs.YtleenphlgbklmaaGreatDoor
open Go.RowKit
open World renaming cell? → Vet
open Tryz
abbrev thrown(v:Value):Ending:= .panicked [{v:= .iface 250 (.agg #[v]),recovered:=false}]
theorem Jcf(b:Addr)(w:World):Calls prog 99 #[.iface 134 (.pointer (some b))] w fun e w'=>e=thrown (.iface 134 (.pointer (some b)))/\w'=w:=by
 go_enter func99,ntmps99
 go_wp2
 exact⟨rfl,rfl,rfl⟩
theorem Jbl(b:Addr)(w:World):Calls prog 99 #[.iface 407 (.pointer (some b))] w fun e w'=>e=thrown (.iface 407 (.pointer (some b)))/\w'=w:=by
 go_enter func99,ntmps99
 go_wp2
 exact⟨rfl,rfl,rfl⟩
def pTok(s:BA)(i:Nat):Option (Nat×BA×Nat):=
 if i<s.size then
  if lowI (chr s i)then(if run lfI s i-i<=8 then some (1,s.extract i (run lfI s i),run lfI s i)else none)
  else if figI (chr s i)then(if run figI s i-i<=8 then some (2,s.extract i (run figI s i),run figI s i)else none)
  else if chr s i=45/\i+1<s.size/\chr s (i+1)=62 then some (3,s.extract i (i+2),i+2)
  else if JaW (chr s i)then some (3,s.extract i (i+1),i+1)
  else none
 else some (0,⟨#[]⟩,i)
theorem Jgg(s:BA):s.extract s.size s.size=⟨#[]⟩:=by
 apply Vbf
 simp[Vbg]
theorem JbH(s:BA)(i:Nat)(D:i<s.size)(E:s.size<=300):(s.extract i s.size).size=s.size-i/\chr (s.extract i s.size) 0=chr s i/\(s.extract i s.size).toList.isEmpty=false:=by
 have d:(s.extract i s.size).size=s.size-i:=by simp[Va2]
 refine⟨d,by simpa using Jd3 s i 0 (by omega),?_⟩
 rw[VaL]
 cases h:(s.extract i s.size).data.toList with
 |nil=>
  have:(s.extract i s.size).size=0:=by
   show(s.extract i s.size).data.size=0;rw[<-Vbx,h];rfl
  omega
 |cons a l=>rfl
theorem JmO(s:BA)(i:Nat)(U:s.size<=300)(M:i=s.size)(w:World):
  Calls prog 172 #[.string s,.int .i64 i] w fun e w'=>e= .returned (.agg #[.int .i64 0,.int .i64 i,.string ⟨#[]⟩])/\Below w.heap.size w w':=by
 subst M;have V:=Jgg s;obtain⟨d,D⟩:∃d,d=(w.alloc (.cells #[.int .i64 0,.int .i64 s.size,.string ⟨#[]⟩] 254)).alloc (.cells #[.int .i64 0,.int .i64 s.size,.string ⟨#[]⟩] 254):=⟨_,rfl⟩
 have E:Below w.heap.size w d:=by rw[D];exact((Vbh _ _).alloc (by simp) _).alloc (by simp) _
 have h:d.heap[w.heap.size]? =some (.cells #[.int .i64 0,.int .i64 s.size,.string ⟨#[]⟩] 254 (0,0)):=by rw[D,VaA _ _ _ (by simp)];exact Vag _ _
 have O:Hid _:=E;have L:Hid _:=h;have I:Hid _:=D;clear E h D
 go_enter VcR,VcG
 go_wp2
 rw[<-I.out];have h:=L.out;have G:d.cell? ⟨w.heap.size,0,none⟩=some (.int .i64 0):=by simp[Vet,h]
 have J:d.cell? ⟨w.heap.size,1,none⟩=some (.int .i64 s.size):=by simp[Vet,h]
 have T:d.cell? ⟨w.heap.size,2,none⟩=some (.string ⟨#[]⟩):=by simp[Vet,h]
 exact VaI (v:= .agg #[.int .i64 0,.int .i64 s.size,.string ⟨#[]⟩]) (by simp[results,Vdy,go_sem,G,J,T]) rfl ⟨rfl,O.out⟩
theorem JkU(s:BA)(i n:Nat)(hs:s.size<=300)(J:i<s.size)(G:lowI (chr s i)=true)(hN:run lfI s i=i+n)(hn:n<=8)(w:World):
  Calls prog 172 #[.string s,.int .i64 i] w fun e w'=>e= .returned (.agg #[.int .i64 1,.int .i64 i,.string (s.extract i (i+n))])/\Below w.heap.size w w':=by
 obtain⟨hz,O,af⟩:=JbH s i J hs;obtain⟨r,I⟩:∃r,s.extract i s.size=r:=⟨_,rfl⟩
 have T:i+n<=s.size->r.extract 0 n=s.extract i (i+n):=fun ai=>by
  rw[<-I,VbD];congr 1
  omega
 have U:=JcT lfI s i (by omega)
 have ae:i<run lfI s i:=by
  rw[Ja7 lfI s i J (by simp[lfI,G])];have:=Jb5 lfI s (i+1);omega
 have aa:=Jbi lfI s i (by omega);rw[I]at hz O af;have h0:0<r.size:=by omega
 have ac:=JbZ r 0 h0;rw[O]at ac;have V:r.size<=300:=by omega
 have L:=T (by omega);clear T;have HL:Hid (∀w,Calls prog 196 #[.int .u8 (chr s i)] w fun e w'=>e= .returned (.bool true)/\w'=w):=fun w=>by have:=JaN (chr s i) w;rw[G]at this;exact this
 have HD:Hid (∀w,Calls prog 170 #[.string r,.func (Fn.func 197) #[] #[]] w fun e w'=>e= .returned (.int .i64 n)/\w'=w):=fun w=>by have:=Jhm r V w;rw[show run lfI r 0=n from by rw[<-I];omega]at this;exact this
 have ah:0<n:=by omega
 have aj:n<=r.size:=by omega
 generalize chr s i=c at*;clear U ae aa hN G;rw[<-L];clear L;obtain⟨d,E⟩:∃d,d=(w.alloc (.cells #[.int .i64 1,.int .i64 i,.string (r.extract 0 n)] 254)).alloc (.cells #[.int .i64 1,.int .i64 i,.string (r.extract 0 n)] 254):=⟨_,rfl⟩
 have M:Below w.heap.size w d:=by rw[E];exact((Vbh _ _).alloc (by simp) _).alloc (by simp) _
 have h:d.heap[w.heap.size]? =some (.cells #[.int .i64 1,.int .i64 i,.string (r.extract 0 n)] 254 (0,0)):=by rw[E,VaA _ _ _ (by simp)];exact Vag _ _
 have HB:Hid _:=M;have Y:Hid _:=h;have HW:Hid _:=E;have ag:decide (8<(n:Int))=false:=by simp;omega
 have ak:((n:Int)==0)=false:=by simp;omega
 clear M h E
 go_enter VcR,VcG
 go_wp2_with (first|(go_at_call 196;refine Vac (HL.out _) ?_;rintro e w' ⟨rfl,D⟩;rw[D];clear D w')|(go_at_call 170;refine Vac (HD.out _) ?_;rintro e w' ⟨rfl,D⟩;rw[D];clear D w'))
 rw[<-HW.out];have h:=Y.out;have d0:d.cell? ⟨w.heap.size,0,none⟩=some (.int .i64 1):=by simp[Vet,h]
 have W:d.cell? ⟨w.heap.size,1,none⟩=some (.int .i64 i):=by simp[Vet,h]
 have Z:d.cell? ⟨w.heap.size,2,none⟩=some (.string (r.extract 0 n)):=by simp[Vet,h]
 exact VaI (v:= .agg #[.int .i64 1,.int .i64 i,.string (r.extract 0 n)]) (by simp[results,Vdy,go_sem,d0,W,Z]) rfl ⟨rfl,HB.out⟩
theorem JmP(s:BA)(i n:Nat)(hs:s.size<=300)(L:i<s.size)(J:lowI (chr s i)=false)(G:figI (chr s i)=true)(hN:run figI s i=i+n)(hn:n<=8)(w:World):
  Calls prog 172 #[.string s,.int .i64 i] w fun e w'=>e= .returned (.agg #[.int .i64 2,.int .i64 i,.string (s.extract i (i+n))])/\Below w.heap.size w w':=by
 obtain⟨hz,T,af⟩:=JbH s i L hs;obtain⟨r,I⟩:∃r,s.extract i s.size=r:=⟨_,rfl⟩
 have U:i+n<=s.size->r.extract 0 n=s.extract i (i+n):=fun ai=>by
  rw[<-I,VbD];congr 1
  omega
 have V:=JcT figI s i (by omega)
 have ae:i<run figI s i:=by
  rw[Ja7 figI s i L (by simp[G])];have:=Jb5 figI s (i+1);omega
 have aa:=Jbi figI s i (by omega);rw[I]at hz T af;have h0:0<r.size:=by omega
 have ac:=JbZ r 0 h0;rw[T]at ac;have W:r.size<=300:=by omega
 have M:=U (by omega);clear U;have HL:Hid (∀w,Calls prog 196 #[.int .u8 (chr s i)] w fun e w'=>e= .returned (.bool false)/\w'=w):=fun w=>by have:=JaN (chr s i) w;rw[J]at this;exact this
 have HG:Hid (∀w,Calls prog 207 #[.int .u8 (chr s i)] w fun e w'=>e= .returned (.bool true)/\w'=w):=fun w=>by have:=JbG (chr s i) w;rw[G]at this;exact this
 have HD:Hid (∀w,Calls prog 170 #[.string r,.func (Fn.func 207) #[] #[]] w fun e w'=>e= .returned (.int .i64 n)/\w'=w):=fun w=>by have:=Je9 r W w;rw[show run figI r 0=n from by rw[<-I];omega]at this;exact this
 have ah:0<n:=by omega
 have aj:n<=r.size:=by omega
 generalize chr s i=c at*;clear V ae aa hN J G;rw[<-M];clear M;obtain⟨h,E⟩:∃h,h=(w.alloc (.cells #[.int .i64 2,.int .i64 i,.string (r.extract 0 n)] 254)).alloc (.cells #[.int .i64 2,.int .i64 i,.string (r.extract 0 n)] 254):=⟨_,rfl⟩
 have O:Below w.heap.size w h:=by rw[E];exact((Vbh _ _).alloc (by simp) _).alloc (by simp) _
 have D:h.heap[w.heap.size]? =some (.cells #[.int .i64 2,.int .i64 i,.string (r.extract 0 n)] 254 (0,0)):=by rw[E,VaA _ _ _ (by simp)];exact Vag _ _
 have HB:Hid _:=O;have Z:Hid _:=D;have HW:Hid _:=E;have ag:decide (8<(n:Int))=false:=by simp;omega
 have ak:((n:Int)==0)=false:=by simp;omega
 clear O D E
 go_enter VcR,VcG
 go_wp2_with (first|(go_at_call 196;refine Vac (HL.out _) ?_;rintro e w' ⟨rfl,d⟩;rw[d];clear d w')|(go_at_call 207;refine Vac (HG.out _) ?_;rintro e w' ⟨rfl,d⟩;rw[d];clear d w')|(go_at_call 170;refine Vac (HD.out _) ?_;rintro e w' ⟨rfl,d⟩;rw[d];clear d w'))
 rw[<-HW.out];have D:=Z.out;have d0:h.cell? ⟨w.heap.size,0,none⟩=some (.int .i64 2):=by simp[Vet,D]
 have Y:h.cell? ⟨w.heap.size,1,none⟩=some (.int .i64 i):=by simp[Vet,D]
 have d2:h.cell? ⟨w.heap.size,2,none⟩=some (.string (r.extract 0 n)):=by simp[Vet,D]
 exact VaI (v:= .agg #[.int .i64 2,.int .i64 i,.string (r.extract 0 n)]) (by simp[results,Vdy,go_sem,d0,Y,d2]) rfl ⟨rfl,HB.out⟩
theorem JfL(s:BA)(i n:Nat)(hs:s.size<=300)(E:i<s.size)(h:lowI (chr s i)=true)(T:run lfI s i=i+n)(hn:8<n)(w:World):
  Calls prog 172 #[.string s,.int .i64 i] w fun e w'=>∃b,e=thrown (.iface 134 (.pointer (some ⟨b,0,none⟩)))/\w'.heap[b]? =some (.cells #[.int .i64 i] 145 (0,0))/\w.heap.size<=b/\Below w.heap.size w w':=by
 obtain⟨O,I,ac⟩:=JbH s i E hs;obtain⟨r,D⟩:∃r,s.extract i s.size=r:=⟨_,rfl⟩
 have Z:i+n<=s.size->r.extract 0 n=s.extract i (i+n):=fun af=>by
  rw[<-D,VbD];congr 1
  omega
 have J:=JcT lfI s i (by omega)
 have aa:i<run lfI s i:=by
  rw[Ja7 lfI s i E (by simp[lfI,h])];have:=Jb5 lfI s (i+1);omega
 have V:=Jbi lfI s i (by omega);rw[D]at O I ac;have U:0<r.size:=by omega
 have W:=JbZ r 0 U;rw[I]at W;have L:r.size<=300:=by omega
 clear Z;have M:Hid (∀w,Calls prog 196 #[.int .u8 (chr s i)] w fun e w'=>e= .returned (.bool true)/\w'=w):=fun w=>by have:=JaN (chr s i) w;rw[h]at this;exact this
 have Y:Hid (∀w,Calls prog 170 #[.string r,.func (Fn.func 197) #[] #[]] w fun e w'=>e= .returned (.int .i64 n)/\w'=w):=fun w=>by have:=Jhm r L w;rw[show run lfI r 0=n from by rw[<-D];omega]at this;exact this
 have ae:0<n:=by omega
 have ag:n<=r.size:=by omega
 generalize chr s i=c at*;clear J aa V T h
 go_enter VcR,VcG
 go_wp2_with (first|(go_at_call 196;refine Vac (M.out _) ?_;rintro e w' ⟨rfl,d⟩;rw[d];clear d w')|(go_at_call 170;refine Vac (Y.out _) ?_;rintro e w' ⟨rfl,d⟩;rw[d];clear d w')|(go_at_call 99;refine Vac (Jcf _ _) ?_;rintro e w' ⟨G,d⟩;rw[d,G];clear d G w' e))
 refine⟨rfl,_,rfl,?_,?_,?_⟩
 .have:=Vag ((w.alloc (.cells #[.int .i64 0,.int .i64 0,.string ⟨#[]⟩] 254)).alloc (.cells #[.int .i64 1,.int .i64 i,.string ⟨#[]⟩] 254)) (.cells #[.int .i64 i] 145);simpa using this
 .omega
 .exact(((Vbh _ _).alloc (by simp) _).alloc (by simp) _).alloc (by simp;omega) _
theorem JgK(s:BA)(i n:Nat)(hs:s.size<=300)(G:i<s.size)(E:lowI (chr s i)=false)(h:figI (chr s i)=true)(V:run figI s i=i+n)(hn:8<n)(w:World):
  Calls prog 172 #[.string s,.int .i64 i] w fun e w'=>∃b,e=thrown (.iface 134 (.pointer (some ⟨b,0,none⟩)))/\w'.heap[b]? =some (.cells #[.int .i64 i] 145 (0,0))/\w.heap.size<=b/\Below w.heap.size w w':=by
 obtain⟨T,J,ae⟩:=JbH s i G hs;obtain⟨r,D⟩:∃r,s.extract i s.size=r:=⟨_,rfl⟩
 have aa:i+n<=s.size->r.extract 0 n=s.extract i (i+n):=fun ag=>by
  rw[<-D,VbD];congr 1
  omega
 have L:=JcT figI s i (by omega)
 have ac:i<run figI s i:=by
  rw[Ja7 figI s i G (by simp[h])];have:=Jb5 figI s (i+1);omega
 have Y:=Jbi figI s i (by omega);rw[D]at T J ae;have W:0<r.size:=by omega
 have Z:=JbZ r 0 W;rw[J]at Z;have M:r.size<=300:=by omega
 clear aa;have O:Hid (∀w,Calls prog 196 #[.int .u8 (chr s i)] w fun e w'=>e= .returned (.bool false)/\w'=w):=fun w=>by have:=JaN (chr s i) w;rw[E]at this;exact this
 have U:Hid (∀w,Calls prog 207 #[.int .u8 (chr s i)] w fun e w'=>e= .returned (.bool true)/\w'=w):=fun w=>by have:=JbG (chr s i) w;rw[h]at this;exact this
 have HD:Hid (∀w,Calls prog 170 #[.string r,.func (Fn.func 207) #[] #[]] w fun e w'=>e= .returned (.int .i64 n)/\w'=w):=fun w=>by have:=Je9 r M w;rw[show run figI r 0=n from by rw[<-D];omega]at this;exact this
 have af:0<n:=by omega
 have ah:n<=r.size:=by omega
 generalize chr s i=c at*;clear L ac Y V E h
 go_enter VcR,VcG
 go_wp2_with (first|(go_at_call 196;refine Vac (O.out _) ?_;rintro e w' ⟨rfl,d⟩;rw[d];clear d w')|(go_at_call 207;refine Vac (U.out _) ?_;rintro e w' ⟨rfl,d⟩;rw[d];clear d w')|(go_at_call 170;refine Vac (HD.out _) ?_;rintro e w' ⟨rfl,d⟩;rw[d];clear d w')|(go_at_call 99;refine Vac (Jcf _ _) ?_;rintro e w' ⟨I,d⟩;rw[d,I];clear d I w' e))
 refine⟨rfl,_,rfl,?_,?_,?_⟩
 .have:=Vag ((w.alloc (.cells #[.int .i64 0,.int .i64 0,.string ⟨#[]⟩] 254)).alloc (.cells #[.int .i64 2,.int .i64 i,.string ⟨#[]⟩] 254)) (.cells #[.int .i64 i] 145);simpa using this
 .omega
 .exact(((Vbh _ _).alloc (by simp) _).alloc (by simp) _).alloc (by simp;omega) _
theorem JgL(s:BA)(i n:Nat)(hs:s.size<=300)(hi:i<s.size)(M:lowI (chr s i)=false)(O:figI (chr s i)=false)(G:(if chr s i=45/\1<s.size-i/\chr s (i+1)=62 then(2:Int)else if JaW (chr s i)then 1 else 0)=n)(hn:0<n)(ah:n<=2)(af:i+n<=s.size)(w:World):
  Calls prog 172 #[.string s,.int .i64 i] w fun e w'=>e= .returned (.agg #[.int .i64 3,.int .i64 i,.string (s.extract i (i+n))])/\Below w.heap.size w w':=by
 obtain⟨T,L,ac⟩:=JbH s i hi hs;obtain⟨r,J⟩:∃r,s.extract i s.size=r:=⟨_,rfl⟩
 have Y:i+n<=s.size->r.extract 0 n=s.extract i (i+n):=fun ag=>by
  rw[<-J,VbD];congr 1
  omega
 have I:=Jd3 s i 1 (by omega);rw[J]at T L ac;have V:0<r.size:=by omega
 have aa:=JbZ r 0 V;rw[L]at aa;have Z:r.size<=300:=by omega
 have U:=Y (by omega);clear Y;rw[J]at I;rw[<-T]at G;have HL:Hid (∀w,Calls prog 196 #[.int .u8 (chr s i)] w fun e w'=>e= .returned (.bool false)/\w'=w):=fun w=>by have:=JaN (chr s i) w;rw[M]at this;exact this
 have HG:Hid (∀w,Calls prog 207 #[.int .u8 (chr s i)] w fun e w'=>e= .returned (.bool false)/\w'=w):=fun w=>by have:=JbG (chr s i) w;rw[O]at this;exact this
 have HS:Hid (∀w,Calls prog 208 #[.string r] w fun e w'=>e= .returned (.int .i64 n)/\w'=w):=fun w=>by
  have:=JeP r Z V w;rw[L,I]at this;rw[G]at this;exact this
 have ai:n<=r.size:=by omega
 clear G I M O;generalize chr s i=c at*;rw[<-U];clear U;obtain⟨h,E⟩:∃h,h=(w.alloc (.cells #[.int .i64 3,.int .i64 i,.string (r.extract 0 n)] 254)).alloc (.cells #[.int .i64 3,.int .i64 i,.string (r.extract 0 n)] 254):=⟨_,rfl⟩
 have W:Below w.heap.size w h:=by rw[E];exact((Vbh _ _).alloc (by simp) _).alloc (by simp) _
 have D:h.heap[w.heap.size]? =some (.cells #[.int .i64 3,.int .i64 i,.string (r.extract 0 n)] 254 (0,0)):=by rw[E,VaA _ _ _ (by simp)];exact Vag _ _
 have HB:Hid _:=W;have HR:Hid _:=D;have HW:Hid _:=E;have ae:decide (8<(n:Int))=false:=by simp;omega
 have aj:((n:Int)==0)=false:=by simp;omega
 clear W D E
 go_enter VcR,VcG
 go_wp2_with (first|(go_at_call 196;refine Vac (HL.out _) ?_;rintro e w' ⟨rfl,d⟩;rw[d];clear d w')|(go_at_call 207;refine Vac (HG.out _) ?_;rintro e w' ⟨rfl,d⟩;rw[d];clear d w')|(go_at_call 208;refine Vac (HS.out _) ?_;rintro e w' ⟨rfl,d⟩;rw[d];clear d w'))
 rw[<-HW.out];have D:=HR.out;have d0:h.cell? ⟨w.heap.size,0,none⟩=some (.int .i64 3):=by simp[Vet,D]
 have d1:h.cell? ⟨w.heap.size,1,none⟩=some (.int .i64 i):=by simp[Vet,D]
 have d2:h.cell? ⟨w.heap.size,2,none⟩=some (.string (r.extract 0 n)):=by simp[Vet,D]
 exact VaI (v:= .agg #[.int .i64 3,.int .i64 i,.string (r.extract 0 n)]) (by simp[results,Vdy,go_sem,d0,d1,d2]) rfl ⟨rfl,HB.out⟩
theorem JfK(s:BA)(i n:Nat)(hs:s.size<=300)(Y:i<s.size)(I:lowI (chr s i)=false)(J:figI (chr s i)=false)(h:(if chr s i=45/\1<s.size-i/\chr s (i+1)=62 then(2:Int)else if JaW (chr s i)then 1 else 0)=n)(U:n=0)(w:World):
  Calls prog 172 #[.string s,.int .i64 i] w fun e w'=>∃b,e=thrown (.iface 134 (.pointer (some ⟨b,0,none⟩)))/\w'.heap[b]? =some (.cells #[.int .i64 i] 145 (0,0))/\w.heap.size<=b/\Below w.heap.size w w':=by
 obtain⟨L,G,ac⟩:=JbH s i Y hs;obtain⟨r,E⟩:∃r,s.extract i s.size=r:=⟨_,rfl⟩
 have aa:i+n<=s.size->r.extract 0 n=s.extract i (i+n):=fun ae=>by
  rw[<-E,VbD];congr 1
  omega
 have D:=Jd3 s i 1 (by omega);rw[E]at L G ac;have M:0<r.size:=by omega
 have Z:=JbZ r 0 M;rw[G]at Z;have T:r.size<=300:=by omega
 clear aa;rw[E]at D;rw[<-L]at h;have V:Hid (∀w,Calls prog 196 #[.int .u8 (chr s i)] w fun e w'=>e= .returned (.bool false)/\w'=w):=fun w=>by have:=JaN (chr s i) w;rw[I]at this;exact this
 have W:Hid (∀w,Calls prog 207 #[.int .u8 (chr s i)] w fun e w'=>e= .returned (.bool false)/\w'=w):=fun w=>by have:=JbG (chr s i) w;rw[J]at this;exact this
 have HS:Hid (∀w,Calls prog 208 #[.string r] w fun e w'=>e= .returned (.int .i64 n)/\w'=w):=fun w=>by
  have:=JeP r T M w;rw[G,D]at this;rw[h]at this;exact this
 subst U;clear h D I J;generalize chr s i=c at*
 go_enter VcR,VcG
 go_wp2_with (first|(go_at_call 196;refine Vac (V.out _) ?_;rintro e w' ⟨rfl,d⟩;rw[d];clear d w')|(go_at_call 207;refine Vac (W.out _) ?_;rintro e w' ⟨rfl,d⟩;rw[d];clear d w')|(go_at_call 208;refine Vac (HS.out _) ?_;rintro e w' ⟨rfl,d⟩;rw[d];clear d w')|(go_at_call 99;refine Vac (Jcf _ _) ?_;rintro e w' ⟨O,d⟩;rw[d,O];clear d O w' e))
 refine⟨rfl,_,rfl,?_,?_,?_⟩
 .have:=Vag ((w.alloc (.cells #[.int .i64 0,.int .i64 0,.string ⟨#[]⟩] 254)).alloc (.cells #[.int .i64 3,.int .i64 i,.string ⟨#[]⟩] 254)) (.cells #[.int .i64 i] 145);simpa using this
 .omega
 .exact(((Vbh _ _).alloc (by simp) _).alloc (by simp) _).alloc (by simp;omega) _
end Go.Proofs.YtleenphlgbklmaaGreatDoor
