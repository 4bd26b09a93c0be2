import Derived.Test.YtleenphlgbklmaaGreatDoorACPWa
import Derived.Test.YtleenphlgbklmaaGreatDoorACPParse
set_option linter.unusedVariables false
set_option linter.unusedSimpArgs false
set_option maxRecDepth 100000
set_option maxHeartbeats 8000000
open Prod renaming fst → Vex
namespace Go.Proofs.YtleenphlgbklmaaGreatDoor
open Go.RowKit
open World renaming cell? → Vet, frozen? → Veu, setCell → Vev, iterSeen → Vew
open Instr renaming next → Vey, entry → Vez
open Result renaming andThen → VeA
open Tryz
variable {w:World}{v:Value}{A:Nat->Addr}{s:BA}{kv:List (BA×BA)}
theorem JrL(x:X):SWX x:=by
 induction x using X.ind with
 |h op names kids loc G=>
 intro v w P B b last T h O L
 cases h with
 |name n loc d J E D=>exact Jql n loc _ w P B b last T (.name n loc d J E D) O L
 |num n loc d J E D=>exact JrP n loc _ w P B b last T (.num n loc d J E D) O L
 |fn n x loc d p J E D I=>exact wx_fn n x loc (G x (by simp)) _ w P B b last T (.fn n x loc d p J E D I) O L
 |ite x y z loc d p q r E D I M hz=>exact JrN x y z loc (G x (by simp)) (G y (by simp)) (G z (by simp)) _ w P B b last T (.ite x y z loc d p q r E D I M hz) O L
 |lt n x y loc d p q J E D I M=>exact JrO n x y loc (G x (by simp)) (G y (by simp)) _ w P B b last T (.lt n x y loc d p q J E D I M) O L
 |app x y loc d p q E D I M=>exact JrM x y loc (G x (by simp)) (G y (by simp)) _ w P B b last T (.app x y loc d p q E D I M) O L
 |pair x y loc d p q E D I M=>exact Jqm x y loc (G x (by simp)) (G y (by simp)) _ w P B b last T (.pair x y loc d p q E D I M) O L
 |rc names kids y loc d nv vv q ps hN J E D Z hv af ae Y V hk M=>
  have U:tw (.mk ⟨#[114,101,99]⟩ names (kids++ [y]) loc)=(names.map fun s=>s.size+16).sum+(tws kids+(tw y+16))+16:=by rw[tw,Jfn]
  rw[U]at L;have W:Hid _:=wrec names kids y loc (fun x I=>G x (by simp[I])) (G y (by simp)) w P B b d last T _ nv vv q ps hN J D Z hv Y V hk M O L;have t0:=Ic4 (.pointer (some ⟨d,0,none⟩)) w;have t1:=Ic5 (.pointer (some ⟨d,0,none⟩)) w;have t2:=Ic1 (.pointer (some ⟨d,0,none⟩)) w;have t3:=Ic2 (.pointer (some ⟨d,0,none⟩)) w;have t4:=Ic3 (.pointer (some ⟨d,0,none⟩)) w;have t5:=Ic7 (.pointer (some ⟨d,0,none⟩)) w;clear D Z hv af ae Y V hk M O G U L hN J
  go_enter Vcx,Vcp
  go_wp2_with fail
  refine Vac W.out ?_
  rintro e w1 ⟨rfl,l1,o1,ac,aa⟩;clear W
  go_wp2
  go_end0
  exact⟨rfl,l1,o1,ac,aa⟩
variable {n:BA}
theorem JiH(h:Wd n):0<n.size:=by
 have o:=h.o;unfold opn at o;simp only[VbT]at o;refine Nat.pos_of_ne_zero (fun z=> ?_)
 have e:n=⟨#[]⟩:=by
  apply JaA
  have:n.data.size=0:=z;have e:n.data= #[]:=VdE this;rw[e]
 rw[e]at o;exact absurd o.1 (by decide)
variable {P:Nat->Prop}{x:X}
theorem PX.pos(h:PX w P x v):0<(txt x).size:=by
 cases h with
 |name n loc D d E G=>rw[JcW];exact JiH d
 |num n loc D d E G=>rw[JhO];exact JiH d
 |fn n x loc D p d E G J=>
  rw[JiE];have:=JiH d;simp only[Var];omega
 |ite x y z loc D p q r E G J I Z=>
  rw[JhN];simp only[Var];have:(⟨#[105,102,32]⟩:BA).size=3:=rfl;omega
 |lt n x y loc D p q d E G J I=>
  rw[JeU];have:=JiH d;simp only[Var];omega
 |app x y loc D p q E G J I=>
  rw[JhM];simp only[Var];have:(⟨#[32]⟩:BA).size=1:=rfl;omega
 |pair x y loc D p q E G J I=>
  rw[Jea];simp only[Var];have:(⟨#[40]⟩:BA).size=1:=rfl;omega
 |rc names kids y loc D nv M q ps W d E G Y O U T V L hk I=>
  rw[JhP _ _ _ _ L];simp only[Var];have:(⟨#[32,105,110,32]⟩:BA).size=4:=rfl;omega
theorem Jjb(w:World)(P:Nat->Prop)(x:X)(v:Value)(h:PX w P x v)(hs:tw x<=1000000):
  Calls prog 70 #[v] w fun e w'=>e= .returned (.string (txt x))/\Below w.heap.size w w':=by
 obtain⟨T,u,rfl⟩:=h.iface;have Z:=h.pos;have G:Kp (fun _=>False) w (w.alloc (.cells #[.pointer none,.slice none 0 0,.string ⟨#[]⟩] 187)):=(Kp.refl _ w).alloc _;have J:BW 187 (w.alloc (.cells #[.pointer none,.slice none 0 0,.string ⟨#[]⟩] 187)) w.heap.size w.heap.size (.string ⟨#[]⟩) []:=⟨Vau _,_,_,.inl rfl,Vag _ _,VbI _ _ _ _,by simp[Value.ownBlock]⟩
 have M:Hid _:=JrL x (.iface T u) _ P w.heap.size w.heap.size ⟨#[]⟩ [] (h.kp G) J (by simp;omega)
 have HS:Hid (∀w' l,BW 187 w' w.heap.size w.heap.size (.string l) (Lib.byteCells (txt x).data.toList)->Calls prog 101 #[.pointer (some ⟨w.heap.size,0,none⟩)] w' fun e L=>e= .returned (.string (txt x))/\Below w.heap.size w' L):=fun w' l aa=>(JlS 187 _ _ _ _ w' aa (by
   intro z;have:(txt x).data.size=0:=by rw[<-Vbx,z];rfl
   have e:(txt x).size=(txt x).data.size:=rfl;omega)).mono (fun e L ⟨Y,V⟩=>⟨by rw[Y],V⟩)
 have E:pre ⟨#[]⟩++txt x=txt x:=by
  apply JaA
  rw[JkQ rfl,JaE];simp
 rw[E,VaK,Lib.strCells_eq]at M;clear J Z h E
 go_enter func70,ntmps70
 go_wp2_with (go_at_call 100;refine Vac M.out ?_;rintro e O ⟨rfl,l2,o2,W,U⟩)
 go_wp2_with (go_at_call 101;refine Vac (HS.out O l2 W) ?_;rintro e w3 ⟨rfl,D⟩)
 go_ret
 have d:Kp (fun q=>w.heap.size<=q) w O:=(G.mono (fun _ _ z=>z.elim)).trans U.kp;exact⟨rfl,D.os.trans d.os,D.tape.trans d.tape,D.output.trans d.output,Vas d.size D.size,fun q I=>(D.block q I).trans (d.block q I (fun z=>by omega))⟩
def PPost(A:Nat->Addr)(w:World)(F:Int)(x:X)(e:Ending)(w':World):Prop:=Kept w w'/\
 ((∃b l:Nat,F=l/\e= .returned (.tuple #[.nilIface,.iface 134 (.pointer (some ⟨b,0,none⟩))])/\w'.heap[b]? =some (.cells #[.int .i64 l] 145 (0,0)))\/
 (F<0/\40<dp x/\e= .returned (.tuple #[.nilIface,.iface 407 (.pointer (some (A 1)))]))\/
 (F<0/\dp x<=40/\∃v,e= .returned (.tuple #[v,.nilIface])/\PX w' (fun b=>w.heap.size<=b) x v))
variable {L:List Tk}
theorem JdN(G:PEnv s Jad L)(w:World)(hG:Glb A w)(n:Nat)(x:X)(K:Nat)(B:Int)(V:expM L n 0 (-1)=some (x,K,B)):
  Calls prog 69 #[.string s] w (PPost A w (Jab L ⟨#[101,110,100]⟩ K B) x):=by
 by_cases I:(tkAt L 0).is=⟨#[110,111,110,101]⟩
 .obtain⟨ac,U⟩:=lex0 G;have W:=JfV G.kw G.eq 0 ac I;rw[U]at W;have O:bz L 0 (-1)=(tkAt L 0).loc:=Jef (by omega) I;have Y:=(stk L n).ex _ _ _ _ _ V (by rw[O];omega)
  have M:Jab L ⟨#[101,110,100]⟩ K B=(run blI s 0:Nat):=by
   rw[(JcA (by rw[Y,O];omega) (by decide)).2,Y,O,U]
  have HN:Hid _:=(JgG s ((w.alloc (.cells #[.nilIface] 130)).alloc (.cells #[.nilIface] 72)) G.sz W).mono (R':=fun e w'=>∃T z,e=thrown (.iface T z)/\(fun T z Z=>∃b:Nat,T=134/\z= .pointer (some ⟨b,0,none⟩)/\Z.heap[b]? =some (.cells #[.int .i64 (run blI s 0:Nat)] 145 (0,0))/\w.heap.size+2<=b) T z w'/\Kept ((w.alloc (.cells #[.nilIface] 130)).alloc (.cells #[.nilIface] 72)) w') (fun e w' ⟨b,E,D,h3,h4⟩=>⟨_,_,E,⟨b,rfl,rfl,D,by simpa using h3⟩,h4⟩);refine(Jir _ s w HN).mono ?_
  rintro e w' ⟨T,z,Z,rfl,⟨b,rfl,rfl,J,aa⟩,d,hX⟩;exact⟨d,.inl ⟨b,_,M,rfl,hX b _ aa J⟩⟩
 .exact JpG G w hG n x K B V I _ (fun b l w' d M J=>⟨d,.inl ⟨b,l,M,rfl,J⟩⟩) (fun w' d E D=>⟨d,.inr (.inl ⟨E,D,rfl⟩)⟩) (fun v w' d E D hx=>⟨d,.inr (.inr ⟨E,D,v,rfl,hx⟩)⟩)
theorem JeB(s:BA)(w:World)(L:Glb A w)(h:300<s.size)(d:s.size<=9223372036854775807):
  Calls prog 69 #[.string s] w fun e w'=>e= .returned (.tuple #[.nilIface,.iface 407 (.pointer (some (A 0)))])/\Kept w w':=by
 have E:Kept w ((w.alloc (.cells #[.nilIface] 130)).alloc (.cells #[.nilIface] 72)):=(Kept.alloc _ _).trans (Kept.alloc _ _);have I:Hid _:=(JgF s _ (L.kept E) h d).mono (R':=fun e w'=>∃T z,e=thrown (.iface T z)/\(fun T z _=>T=407/\z=Value.pointer (some (A 0))) T z w'/\Kept ((w.alloc (.cells #[.nilIface] 130)).alloc (.cells #[.nilIface] 72)) w') (fun e w' ⟨G,D⟩=>⟨_,_,G,⟨rfl,rfl⟩,D⟩);refine(Jir (fun T z _=>T=407/\z=Value.pointer (some (A 0))) s w I).mono ?_
 rintro e w' ⟨T,z,M,rfl,⟨rfl,rfl⟩,J,_⟩;exact⟨rfl,J⟩
theorem JfR(s:BA)(w:World)(R:TypeId->Value->World->Prop)(d:Hid (Calls prog 69 #[.string s] w fun e w'=>∃T z,e= .returned (.tuple #[.nilIface,.iface T z])/\Hid (R T z w'))):
  Calls prog 36 #[.string s] w fun e w'=>∃T z,e= .returned (.tuple #[.string ⟨#[]⟩,.iface T z])/\Hid (R T z w'):=by
 go_enter func36,ntmps36
 go_wp2_with fail
 refine Vac d.out ?_
 rintro e E ⟨T,z,rfl,D⟩;clear d
 go_wp2
 exact VaI (v:= .tuple #[.string ⟨#[]⟩,.iface T z]) (by simp[results,results36,go_sem]) rfl ⟨T,z,rfl,D⟩
theorem Jp2(s:BA)(w:World)(x:X)(P:Nat->Prop)(L:tw x<=1000000)(G:Hid (Calls prog 69 #[.string s] w fun e w'=>∃v,e= .returned (.tuple #[v,.nilIface])/\PX w' P x v/\Kept w w')):
  Calls prog 36 #[.string s] w fun e w'=>e= .returned (.tuple #[.string (txt x),.nilIface])/\Kept w w':=by
 go_enter func36,ntmps36
 go_wp2_with fail
 refine Vac G.out ?_
 rintro e I ⟨v,rfl,d,J⟩;obtain⟨T,u,rfl⟩:=d.iface;have E:Hid _:=Jjb I P x _ d L;clear G d
 go_wp2_with fail
 refine Vac E.out ?_
 rintro e O ⟨rfl,D⟩;have M:Hid _:=J.trans (Kept.below D);clear E D
 go_wp2
 exact VaI (v:= .tuple #[.string (txt x),.nilIface]) (by simp[results,results36,go_sem]) rfl ⟨rfl,M.out⟩
theorem JkJ(s:BA)(w:World)(R:BA->Int->Int->Prop)(O:Hid (Calls prog 36 #[.string s] (w.alloc (.cells #[.int .i64 0,.int .i64 0,.string ⟨#[]⟩,.int .i64 0,.int .i64 0] 23)) fun e w'=>∃t er what loc,e= .returned (.tuple #[.string t,er])/\Kept (w.alloc (.cells #[.int .i64 0,.int .i64 0,.string ⟨#[]⟩,.int .i64 0,.int .i64 0] 23)) w'/\Hid (Calls prog 37 #[er] w' fun e ac=>e= .returned (Jaa what loc ⟨#[]⟩)/\Kept w' ac)/\R t what loc)):
  Calls prog 14 #[.string s] w fun e w'=>∃t what loc,e= .returned (.tuple #[.string t,Jaa what loc ⟨#[]⟩])/\R t what loc/\Kept w w':=by
 have Y:Kept w (w.alloc (.cells #[.int .i64 0,.int .i64 0,.string ⟨#[]⟩,.int .i64 0,.int .i64 0] 23)):=Kept.alloc _ _;have aa:(w.alloc (.cells #[.int .i64 0,.int .i64 0,.string ⟨#[]⟩,.int .i64 0,.int .i64 0] 23)).heap[w.heap.size]? =some (.cells #[.int .i64 0,.int .i64 0,.string ⟨#[]⟩,.int .i64 0,.int .i64 0] 23 (0,0)):=Vag _ _
 go_enter func14,ntmps14
 go_wp2_with fail
 refine Vac O.out ?_
 rintro e w1 ⟨t,er,what,loc,rfl,J,L,M⟩;have ae:=J.blk aa;have HR:Hid _:=M;clear O M
 go_wp2_with fail
 refine Vac L.out ?_
 rintro e D ⟨rfl,I⟩;have d:=I.blk ae;have E:=(Y.trans J).trans I;clear L;have c0:D.cell? ⟨w.heap.size,0,none⟩=some (.int .i64 0):=by simp[Vet,d]
 have c1:D.cell? ⟨w.heap.size,1,none⟩=some (.int .i64 0):=by simp[Vet,d]
 have c2:D.cell? ⟨w.heap.size,2,none⟩=some (.string ⟨#[]⟩):=by simp[Vet,d]
 have c3:D.cell? ⟨w.heap.size,3,none⟩=some (.int .i64 0):=by simp[Vet,d]
 have c4:D.cell? ⟨w.heap.size,4,none⟩=some (.int .i64 0):=by simp[Vet,d]
 have f0:∀j,D.frozen? ⟨w.heap.size,j,none⟩=false:=fun j=>by simp[Veu,d]
 unfold Jaa
 go_wp2_with fail
 obtain⟨w5,G⟩:∃w5,w5=((((D.setCell ⟨w.heap.size,0,none⟩ (.int .i64 what)).setCell ⟨w.heap.size,1,none⟩ (.int .i64 loc)).setCell ⟨w.heap.size,2,none⟩ (.string ⟨#[]⟩)).setCell ⟨w.heap.size,3,none⟩ (.int .i64 0)).setCell ⟨w.heap.size,4,none⟩ (.int .i64 0):=⟨_,rfl⟩
 have hF:w5.heap[w.heap.size]? =some (.cells #[.int .i64 what,.int .i64 loc,.string ⟨#[]⟩,.int .i64 0,.int .i64 0] 23 (0,0)):=by
  rw[G];simp[Vev,d,Vay]
 have af:Kept w w5:=by
  rw[G];refine⟨E.1,E.2,by simpa using E.3,fun q V=> ?_⟩
  have e:∀(W:World) (j:Nat) (v:Value),(W.setCell ⟨w.heap.size,j,none⟩ v).heap[q]? =W.heap[q]? :=fun W j v=>Vaj _ _ _ q (by intro z;simp at z;omega)
  exact(e _ _ _).trans ((e _ _ _).trans ((e _ _ _).trans ((e _ _ _).trans ((e _ _ _).trans (E.4 q V)))))
 rw[<-G];clear G;have d0:w5.cell? ⟨w.heap.size,0,none⟩=some (.int .i64 what):=by simp[Vet,hF]
 have Z:w5.cell? ⟨w.heap.size,1,none⟩=some (.int .i64 loc):=by simp[Vet,hF]
 have T:w5.cell? ⟨w.heap.size,2,none⟩=some (.string ⟨#[]⟩):=by simp[Vet,hF]
 have U:w5.cell? ⟨w.heap.size,3,none⟩=some (.int .i64 0):=by simp[Vet,hF]
 have d4:w5.cell? ⟨w.heap.size,4,none⟩=some (.int .i64 0):=by simp[Vet,hF]
 exact VaI (v:= .tuple #[.string t,Jaa what loc ⟨#[]⟩]) (by simp[results,results14,go_sem,Jaa,d0,Z,T,U,d4]) rfl ⟨t,what,loc,rfl,HR.out,af⟩
theorem Jja(hE:PEnv s Jad L)(w:World)(hG:Glb A w)(n:Nat)(x:X)(K:Nat)(B:Int)(hM:expM L n 0 (-1)=some (x,K,B))(aa:Jab L ⟨#[101,110,100]⟩ K B<0->tw x<=1000000):
  Calls prog 14 #[.string s] w fun e w'=>Kept w w'/\
   (0<=Jab L ⟨#[101,110,100]⟩ K B->e= .returned (.tuple #[.string ⟨#[]⟩,Jaa 2 (Jab L ⟨#[101,110,100]⟩ K B) ⟨#[]⟩]))/\
   (Jab L ⟨#[101,110,100]⟩ K B<0->40<dp x->e= .returned (.tuple #[.string ⟨#[]⟩,Jaa 3 0 ⟨#[]⟩]))/\
   (Jab L ⟨#[101,110,100]⟩ K B<0->dp x<=40->e= .returned (.tuple #[.string (txt x),Jaa 0 0 ⟨#[]⟩])):=by
 have ac:Kept w (w.alloc (.cells #[.int .i64 0,.int .i64 0,.string ⟨#[]⟩,.int .i64 0,.int .i64 0] 23)):=Kept.alloc _ _;have J:=hG.kept ac;generalize hW:w.alloc (.cells #[.int .i64 0,.int .i64 0,.string ⟨#[]⟩,.int .i64 0,.int .i64 0] 23)=W at*;have Z:=JdN hE W J n x K B hM
 have key:Calls prog 36 #[.string s] W fun e w'=>∃t er what loc,e= .returned (.tuple #[.string t,er])/\Kept W w'/\Hid (Calls prog 37 #[er] w' fun e M=>e= .returned (Jaa what loc ⟨#[]⟩)/\Kept w' M)/\((0<=Jab L ⟨#[101,110,100]⟩ K B->t=⟨#[]⟩/\what=2/\loc=Jab L ⟨#[101,110,100]⟩ K B)/\(Jab L ⟨#[101,110,100]⟩ K B<0->40<dp x->t=⟨#[]⟩/\what=3/\loc=0)/\(Jab L ⟨#[101,110,100]⟩ K B<0->dp x<=40->t=txt x/\what=0/\loc=0)):=by
  by_cases hF:0<=Jab L ⟨#[101,110,100]⟩ K B
  .have D:=JfR s W (fun T z w'=>Kept W w'/\∃b l:Nat,Jab L ⟨#[101,110,100]⟩ K B=l/\T=134/\z= .pointer (some ⟨b,0,none⟩)/\w'.heap[b]? =some (.cells #[.int .i64 l] 145 (0,0))) (Z.mono (fun e w' hp=>by
    rcases hp.2 with⟨b,l,G,E,I⟩|⟨G,_⟩|⟨G,_⟩
    .exact⟨_,_,E,hp.1,b,l,G,rfl,rfl,I⟩
    .omega
    .omega))
   refine D.mono ?_
   rintro e w' ⟨T,z,rfl,V⟩;obtain⟨d,b,l,G,rfl,rfl,I⟩:=V.out;refine⟨⟨#[]⟩,_,2,l,rfl,d,?_,fun _=>⟨rfl,rfl,G.symm⟩,fun q=>absurd hF (by omega),fun q=>absurd hF (by omega)⟩
   exact(Jc9 w' (J.kept d) ⟨b,0,none⟩ l (by simp[Vet,I])).mono (fun e M ⟨O,U⟩=>⟨O,Kept.below U⟩)
  .by_cases hd:40<dp x
   .have D:=JfR s W (fun T z w'=>Kept W w'/\T=407/\z= .pointer (some (A 1))) (Z.mono (fun e w' hp=>by
     rcases hp.2 with⟨b,l,G,_⟩|⟨_,_,E⟩|⟨_,E,_⟩
     .omega
     .exact⟨_,_,E,hp.1,rfl,rfl⟩
     .omega))
    refine D.mono ?_
    rintro e w' ⟨T,z,rfl,V⟩;obtain⟨d,rfl,rfl⟩:=V.out;exact⟨⟨#[]⟩,_,3,0,rfl,d,Jbs w' (J.kept d) 1 (by omega),fun q=>absurd q hF,fun _ _=>⟨rfl,rfl,rfl⟩,fun _ q=>absurd q (by omega)⟩
   .have D:=Jp2 s W x (fun b=>W.heap.size<=b) (aa (by omega)) (Z.mono (fun e w' hp=>by
     rcases hp.2 with⟨b,l,G,_⟩|⟨_,E,_⟩|⟨_,_,v,E,I⟩
     .omega
     .omega
     .exact⟨v,E,I,hp.1⟩))
    refine D.mono ?_
    rintro e w' ⟨rfl,d⟩;exact⟨txt x,_,0,0,rfl,d,(Jc8 w').mono (fun e M ⟨O,U⟩=>⟨O,Kept.below U⟩),fun q=>absurd q hF,fun _ q=>absurd q hd,fun _ _=>⟨rfl,rfl,rfl⟩⟩
 have:=JkJ s w (fun t what loc=>(0<=Jab L ⟨#[101,110,100]⟩ K B->t=⟨#[]⟩/\what=2/\loc=Jab L ⟨#[101,110,100]⟩ K B)/\(Jab L ⟨#[101,110,100]⟩ K B<0->40<dp x->t=⟨#[]⟩/\what=3/\loc=0)/\(Jab L ⟨#[101,110,100]⟩ K B<0->dp x<=40->t=txt x/\what=0/\loc=0)) (by rw[hW];exact key);refine this.mono ?_
 rintro e w' ⟨t,what,loc,rfl,⟨D,h2,h3⟩,d⟩;refine⟨d,fun q=> ?_,fun q Y=> ?_,fun q Y=> ?_⟩
 .obtain⟨rfl,rfl,rfl⟩:=D q;rfl
 .obtain⟨rfl,rfl,rfl⟩:=h2 q Y;rfl
 .obtain⟨rfl,rfl,rfl⟩:=h3 q Y;rfl
theorem Jhz(s:BA)(w:World)(V:Glb A w)(h:300<s.size)(E:s.size<=9223372036854775807):
  Calls prog 14 #[.string s] w fun e w'=>e= .returned (.tuple #[.string ⟨#[]⟩,Jaa 1 0 ⟨#[]⟩])/\Kept w w':=by
 have J:Kept w (w.alloc (.cells #[.int .i64 0,.int .i64 0,.string ⟨#[]⟩,.int .i64 0,.int .i64 0] 23)):=Kept.alloc _ _;have D:=V.kept J;generalize G:w.alloc (.cells #[.int .i64 0,.int .i64 0,.string ⟨#[]⟩,.int .i64 0,.int .i64 0] 23)=W at*;have M:=JfR s W (fun T z w'=>Kept W w'/\T=407/\z= .pointer (some (A 0))) ((JeB s W D h E).mono (fun e w' ⟨I,U⟩=>⟨_,_,I,U,rfl,rfl⟩))
 have key:Calls prog 36 #[.string s] W fun e w'=>∃t er what loc,e= .returned (.tuple #[.string t,er])/\Kept W w'/\Hid (Calls prog 37 #[er] w' fun e O=>e= .returned (Jaa what loc ⟨#[]⟩)/\Kept w' O)/\(t=⟨#[]⟩/\what=1/\loc=0):=by
  refine M.mono ?_
  rintro e w' ⟨T,z,rfl,L⟩;obtain⟨d,rfl,rfl⟩:=L.out;exact⟨⟨#[]⟩,_,1,0,rfl,d,Jbs w' (D.kept d) 0 (by omega),rfl,rfl,rfl⟩
 refine(JkJ s w (fun t what loc=>t=⟨#[]⟩/\what=1/\loc=0) (by rw[G];exact key)).mono ?_
 rintro e w' ⟨t,what,loc,rfl,⟨rfl,rfl,rfl⟩,d⟩;exact⟨rfl,d⟩
theorem Jei(p q:Addr)(w:World):
  CallsD prog 124 #[.pointer (some p),.pointer (some q)] .returning w fun e E w'=>e= .returned (.tuple #[])/\E= .returning/\w'=w:=by
 refine VcK func124 rfl fun d G D=> ?_
 apply Vea
 apply Vdl
 simp[wpOpsS,go_sem,recoverD,D,ntmps124,Exit.thenS];refine Vdu ?_
 show Code.wp _ _ _ ⟨#[.pointer (some p),.pointer (some q),.nilIface,.nilIface,undef,undef,undef,undef],[]⟩ w
 go_wp2
 cases d
 simp_all[bodyPostS,results,results124]
theorem Jcn(p q:Addr)(x y:Value)(T:TypeId)(z:Value)(G:List PanicEntry)(w:World)(hp:w.cell? p=some x)(L:w.frozen? p=false)(D:w.cell? q=some y)(O:w.frozen? q=false)(J:p≠q):
  CallsD prog 124 #[.pointer (some p),.pointer (some q)] (.panicking ({v:= .iface 250 (.agg #[.iface T z]),recovered:=false}::G)) w fun e U w'=>
   e= .returned (.tuple #[])/\U= .panicking ({v:= .iface 250 (.agg #[.iface T z]),recovered:=true}::G)/\w'=((w.alloc (.cells #[.iface T z] 250)).setCell p .nilIface).setCell q (.iface T z):=by
 refine VcK func124 rfl fun c₀ cs W=> ?_
 apply Vea
 apply Vdl
 simp[wpOpsS,go_sem,recoverD,W,ntmps124,Exit.thenS];refine Vdu ?_
 show Code.wp _ _ _ ⟨#[.pointer (some p),.pointer (some q),.iface 250 (.agg #[.iface T z]),.iface 250 (.agg #[.iface T z]),undef,undef,undef,undef],[]⟩ w;have M:=Vaw _ _ hp;have Z:=Vaw _ _ D;have E:=VaA w (.cells #[.iface T z] 250) p.block M;have bq:=VaA w (.cells #[.iface T z] 250) q.block Z;have aa:=(VaH (a:=p) E).trans hp;have ae:=(VbP (a:=p) E).trans L;have I:=(VaH (a:=q) bq).trans D;have Y:=(VbP (a:=q) bq).trans O;have af:((w.alloc (.cells #[.iface T z] 250)).setCell p .nilIface).cell? q=some y:=(Vax _ _ _ _ J).trans I;have ac:((w.alloc (.cells #[.iface T z] 250)).setCell p .nilIface).frozen? q=false:=(VcD _ _ _ _).trans Y;have V:Hid _:=JcD T z w
 go_wp2_with (go_at_call 95;refine Vac V.out ?_;rintro e w' ⟨rfl,d⟩;rw[d];clear d w')
 simp[bodyPostS,results,results124]
def exO(s:BA):Option X:=
 if 300<s.size then none
 else match expM (Jan s Jad (s.size+1) 0) 2000 0 (-1)with
  |none=>none
  |some (x,K,B)=>if 0<=Jab (Jan s Jad (s.size+1) 0) ⟨#[101,110,100]⟩ K B then none else if 40<dp x then none else some x
theorem JoM(d:exO s=some x)(w:World)(M:Glb A w):
  Calls prog 69 #[.string s] w fun e w'=>Kept w w'/\∃T u,e= .returned (.tuple #[.iface T u,.nilIface])/\PX w' (fun _=>True) x (.iface T u):=by
 unfold exO at d
 by_cases G:300<s.size
 .rw[Vat G]at d
  cases d
 .rw[Vaq G]at d;have J:PEnv s Jad (Jan s Jad (s.size+1) 0):=⟨by omega,Jc6,rfl⟩
  cases D:expM (Jan s Jad (s.size+1) 0) 2000 0 (-1)with
  |none=>rw[D]at d;cases d
  |some q=>
   obtain⟨L,K,B⟩:=q;rw[D]at d;simp only at d
   split at d
   .cases d
   .rename_i hF
    split at d
    .cases d
    .rename_i O;simp only[Vaa]at d;subst d;refine(JdN J w M _ L K B D).mono ?_
     rintro e w' ⟨hk,h⟩
     rcases h with⟨b,l,U,_⟩|⟨_,I,_⟩|⟨_,_,v,I,E⟩
     .omega
     .omega
     .obtain⟨T,u,rfl⟩:=E.iface;exact⟨hk,T,u,I,E.mono (fun _ _ _=>trivial)⟩
variable {b:Nat}{e:TypeId}
theorem Kept.again(d:w.heap[b]? =some (.cells #[v] e (0,0))):Kept w (w.setCell ⟨b,0,none⟩ v):=⟨rfl,rfl,by simp,fun k hk=>by
 by_cases z:k=b
 .subst z;rw[d];simp[Vev,d,Vay]
 .exact Vaj _ _ _ k z⟩
variable {w5 w6:World}{b1 b2:Nat}{T:TypeId}{z:Value}
theorem Jej(I:w5.heap[b1]? =some (.cells #[.nilIface] 156 (0,0)))(M:w5.heap[b2]? =some (.cells #[.nilIface] 72 (0,0)))(L:b1≠b2)(E:w6=((w5.alloc (.cells #[.iface T z] 250)).setCell ⟨b1,0,none⟩ .nilIface).setCell ⟨b2,0,none⟩ (.iface T z)):
  w6.cell? ⟨b1,0,none⟩=some .nilIface/\w6.cell? ⟨b2,0,none⟩=some (.iface T z)/\w6.os=w5.os/\w6.output=w5.output/\w5.heap.size<=w6.heap.size/\∀k o,k≠b2->w5.heap[k]? =some o->w6.heap[k]? =some o:=by
 have d:Kept w5 (w5.alloc (.cells #[.iface T z] 250)):=Kept.alloc _ _;have G:=d.blk I;have O:=d.blk M;generalize w5.alloc (.cells #[.iface T z] 250)=V at*;have D:=Kept.again G;have Y:=D.blk G;have W:=D.blk O;generalize V.setCell ⟨b1,0,none⟩ .nilIface=U at*
 have hk:∀k o,k≠b2->w5.heap[k]? =some o->w6.heap[k]? =some o:=fun k o hk J=>by
  rw[E,Vaj _ _ _ k (fun z=>hk z)];exact(d.trans D).blk J
 refine⟨?_,?_,by rw[E];exact(d.trans D).os,by rw[E];exact(d.trans D).output,by rw[E];simpa using(d.trans D).size,hk⟩
 .have:=hk b1 _ L I;simp[Vet,this]
 .rw[E];exact VaD _ _ _ (u:= .nilIface) (by simp[Vet,W])
def KN:World->Unit->Prop:=fun _ _=>True
theorem KN.ok:KOk KN:=fun _ _ _ _ _ _=>trivial
variable {ad:List Nat}
theorem Kw.keptBy(h:Kept w w5)(k:Kw w.heap.size ad w5 w6)(D:∀a,a∈ad->w.heap.size<=a):Kept w w6:=⟨k.os.trans h.os,k.output.trans h.output,Vas h.size k.size,fun q d=>by
 have e:w5.heap[q]? =some (w5.heap[q]'(Va6 d h.size)):=by simp
 rw[<-h.block q d,e];exact k.blk q _ e (fun _=>d) (fun _ z=>by have:=D q z;omega)⟩
def TtO(A:Nat->Addr)(w:World)(e:Ending)(w':World):Option (Nat×BA)->Oc (TR×St)->Prop
 |some q,_=>∃b,e= .returned (.tuple #[.nilIface,.iface 135 (.pointer (some ⟨b,0,none⟩))])/\w'.heap[b]? =some (.cells #[.int .i64 q.1,.string q.2] 148 (0,0))
 |none,.er j=>e= .returned (.tuple #[.nilIface,.iface 407 (.pointer (some (A j)))])
 |none,.ok q=>∃T u ad,e= .returned (.tuple #[.iface T u,.nilIface])/\RV ad q.1 (.iface T u)/\SX w' ad q.2/\∀a,a∈ad->w.heap.size<=a
variable {fl:Nat}{kvs:List (BA×BA)}{rk:Bool}{gv:Gv}{σ:St}{ck:Option (Nat×BA)}
theorem Joo{em:Nat}{res:Oc (TR×St)}(w:World)(hG:Glb A w)(hS:SM w em kv)(hl:kv.length<=1000)(aa:∀y,y∈kv->y.1.size<=1000)(hp:kvs.Perm kv)(bj:(kvs.map fun y=>y.1.data.toList).Pairwise (fun x y=>decide (x<=y)=true))(h1:1<=fl)(h2:fl<=12)(hx:exO s=some x)(bi:gvF kvs [] []=some (gv,σ))(aX:chkF rk gv 500 x []=some ck)(ag:ck=none->typF tlN rk gv fl 500 x [] σ ()=some (res,()))
 (bb:rk=true->∀f,SCk gv f->SCg gv f)(aV:∀B,rk=true->∀f,STf A B KN gv fl .nilFunc f->SGr tlN A B KN gv fl .nilFunc f):
  Calls prog 93 #[.agg #[.int .i64 fl,.nilFunc],.string s,.map (some em)] w fun e w'=>Kept w w'/\TtO A w e w' ck res:=by
 have aH:Kept w (((w.alloc (.cells #[.int .i64 fl,.nilFunc] 172)).alloc (.cells #[.nilIface] 156)).alloc (.cells #[.nilIface] 72)):=((Kept.alloc _ _).trans (Kept.alloc _ _)).trans (Kept.alloc _ _);have e1:(w.alloc (.cells #[.int .i64 fl,.nilFunc] 172)).heap.size=w.heap.size+1:=by simp
 have W:((w.alloc (.cells #[.int .i64 fl,.nilFunc] 172)).alloc (.cells #[.nilIface] 156)).heap.size=w.heap.size+1+1:=by simp
 have a1:(((w.alloc (.cells #[.int .i64 fl,.nilFunc] 172)).alloc (.cells #[.nilIface] 156)).alloc (.cells #[.nilIface] 72)).heap[w.heap.size]? =some (.cells #[.int .i64 fl,.nilFunc] 172 (0,0)):=((Kept.alloc _ _).trans (Kept.alloc _ _)).blk (Vag _ _)
 have aq:(((w.alloc (.cells #[.int .i64 fl,.nilFunc] 172)).alloc (.cells #[.nilIface] 156)).alloc (.cells #[.nilIface] 72)).heap[w.heap.size+1]? =some (.cells #[.nilIface] 156 (0,0)):=by
  rw[<-e1];exact(Kept.alloc _ _).blk (Vag _ _)
 have a4:(((w.alloc (.cells #[.int .i64 fl,.nilFunc] 172)).alloc (.cells #[.nilIface] 156)).alloc (.cells #[.nilIface] 72)).heap[w.heap.size+1+1]? =some (.cells #[.nilIface] 72 (0,0)):=by
  rw[<-W];exact Vag _ _
 clear e1 W
 go_enter_defers func93,ntmps93
 go_wp2_with fail
 generalize((w.alloc (.cells #[.int .i64 fl,.nilFunc] 172)).alloc (.cells #[.nilIface] 156)).alloc (.cells #[.nilIface] 72)=bw at*;have HP:Hid _:=JoM hx bw (hG.kept aH);refine Vac HP.out ?_
 rintro e w1 ⟨ai,T,u,rfl,bk⟩;have c0:=ai.blk a1;have G:=ai.blk aq;have c2:=ai.blk a4;have d0:w1.cell? ⟨w.heap.size,0,none⟩=some (.int .i64 fl):=by simp[Vet,c0]
 have d2:w1.cell? ⟨w.heap.size+1+1,0,none⟩=some .nilIface:=by simp[Vet,c2]
 have f2:w1.frozen? ⟨w.heap.size+1+1,0,none⟩=false:=by simp[Veu,c2]
 have be:Hid _:=aH.trans ai;have aM:Hid _:=bk;clear HP ai bk a1 aq a4 aH
 go_wp2_with fail
 have ae:=Kept.again c2;generalize w1.setCell ⟨w.heap.size+1+1,0,none⟩ .nilIface=w2 at*;have av:=be.out.trans ae;have c0:=ae.blk c0;have G:=ae.blk G;have c2:=ae.blk c2;have ba:Hid _:=Jl3 (hG.kept av) ⟨av.blk hS.mp,hS.nd⟩ hl aa hp bj bi;have aU:Hid _:=PX.keepT (XKeep.kept ae) aM.out;have aS:Hid _:=hG;have aP:Hid _:=aX;have bf:Hid _:=ag;have a0:Hid _:=bb;have aZ:Hid _:=aV;have aR:Hid _:=av;clear av ae be aM hG hS hl aa hp bj bi aX ag bb aV d0 d2 f2 hx;refine Vac ba.out ?_
 rintro e L ⟨gm,ad,rfl,aJ,aK,a9,ac,ao⟩;have c0:=ao.blk c0;have G:=ao.blk G;have c2:=ao.blk c2;have M:Kept L (L.alloc (.cells #[.pointer none,.map (some gm)] 244)):=Kept.alloc _ _;have a7:=Vag L (.cells #[.pointer none,.map (some gm)] 244);have c0:=M.blk c0;have G:=M.blk G;have c2:=M.blk c2;have d2:(L.alloc (.cells #[.pointer none,.map (some gm)] 244)).cell? ⟨w.heap.size+1+1,0,none⟩=some .nilIface:=by rw[Vet];simp only[c2];rfl
 have f2:(L.alloc (.cells #[.pointer none,.map (some gm)] 244)).frozen? ⟨w.heap.size+1+1,0,none⟩=false:=by rw[Veu];simp only[c2];rfl
 have aG:Hid _:=a7;have a3:Hid _:=aJ;have a5:Hid _:=aK;have aL:Hid _:=a9;have bE:Hid _:=ac;have bh:Hid _:=ao;have aT:Hid _:=M;have aW:Hid _:=c0;have aj:Hid _:=G;have af:Hid _:=c2;have V:=Kept.again af.out;have U:=V.blk aG.out;have n0:((L.alloc (.cells #[.pointer none,.map (some gm)] 244)).setCell ⟨w.heap.size+1+1,0,none⟩ .nilIface).cell? ⟨L.heap.size,0,none⟩=some (.pointer none):=by rw[Vet];simp only[U];rfl
 have n1:((L.alloc (.cells #[.pointer none,.map (some gm)] 244)).setCell ⟨w.heap.size+1+1,0,none⟩ .nilIface).cell? ⟨L.heap.size,1,none⟩=some (.map (some gm)):=by rw[Vet];simp only[U];rfl
 have br:Hid _:=V;clear ba aJ aK a9 ac ao M a7 c0 G c2 V U
 go_wp2_with fail
 have V:=br.out;clear br;generalize(L.alloc (.cells #[.pointer none,.map (some gm)] 244)).setCell ⟨w.heap.size+1+1,0,none⟩ .nilIface=w4 at*;have ah:=aT.out.trans V;have c0:=V.blk aW.out;have G:=V.blk aj.out;have c2:=V.blk af.out;have U:=V.blk aG.out;have bu:=(aR.out.trans bh.out).trans ah;have aB:CI w4 ad [] gv none gm:=⟨rfl,GM.kt aL.out (Kt.of_kept (ad:=ad) (S:=fun _=>False) ah) id⟩
 have az:=PX.keepT (XKeep.kept (bh.out.trans ah)) aU.out;have aA:Hid _:=JqG a0.out 500 x [] ck aP.out w4 ad _ none gm az aB;have a2:Hid _:=bu;have bA:Hid _:=ah;have a6:Hid _:=az;have aY:Hid _:=aB;have bD:Hid _:=c0;have aQ:Hid _:=G;have a8:Hid _:=c2;have bC:Hid _:=U;clear aU aG aW aj af d2 f2 bu ah az aB aP a0 V aT c0 G c2 U aL;refine Vac aA.out ?_
 intro e w5 hE
 rcases hE.split with⟨q,b,rfl,rfl,hE⟩|⟨rfl,rfl,I⟩
 .obtain⟨I,b',he,aI⟩:=hE;have bx:b=b':=by simpa using he
  subst bx;have J:=I.blk aQ.out;have O:=I.blk a8.out;have d:=a2.out.trans I;clear he I aA;refine VbE (f:=124) (args:= #[.pointer (some ⟨w.heap.size+1,0,none⟩),.pointer (some ⟨w.heap.size+1+1,0,none⟩)]) (by simp) (by simp[go_sem]) ?_
  refine(Jcn ⟨w.heap.size+1,0,none⟩ ⟨w.heap.size+1+1,0,none⟩ .nilIface .nilIface 135 (.pointer (some ⟨b,0,none⟩)) [] w5 ?_ ?_ ?_ ?_ ?_).mono ?_
  .simp[Vet,J]
  .simp[Veu,J]
  .simp[Vet,O]
  .simp[Veu,O]
  .simp
  rintro e u' w6 ⟨rfl,rfl,ak⟩;obtain⟨cp,cq,Y,aE,aa,au⟩:=Jej J O (by omega) ak
  have HF:Hid (Kept w w6/\TtO A w (.returned (.tuple #[.nilIface,.iface 135 (.pointer (some ⟨b,0,none⟩))])) w6 (some q) res):=by
   refine⟨⟨Y.trans d.os,aE.trans d.output,Vas d.size aa,fun k hk=> ?_⟩,b,rfl,au b _ (fun z=> ?_) aI⟩
   .have e:w5.heap[k]? =w.heap[k]? :=d.block k hk;have W:w.heap[k]? =some (w.heap[k]'hk):=by simp
    rw[W];exact au k _ (by omega) (e.trans W)
   .rw[z,O]at aI;simp at aI
  clear ak;simp[Leaves,settle,results,VdF,go_sem,cp,cq];exact HF.out
 .have ag:=bf.out rfl;have c0:=I.blk bD.out;have G:=I.blk aQ.out;have c2:=I.blk a8.out;have U:=I.blk bC.out;have d0:w5.cell? ⟨w.heap.size,0,none⟩=some (.int .i64 fl):=by simp[Vet,c0]
  have d1:w5.cell? ⟨w.heap.size,1,none⟩=some .nilFunc:=by simp[Vet,c0]
  have bH:w5.cell? ⟨L.heap.size,0,none⟩=some (.pointer none):=by simp[Vet,U]
  have bG:w5.cell? ⟨L.heap.size,1,none⟩=some (.map (some gm)):=by simp[Vet,U]
  have aD:=a2.out.trans I;have bn:=bA.out.trans I;have am:=(GA.start aS.out).kept aD;have ac:∀a,a∈ad->w.heap.size<=a:=fun a Z=>Vas aR.out.size (bE.out a Z)
  have aN:TI A w.heap.size KN w5 ad σ [] gv none gm ():=⟨SX.kept a3.out bn,AR.ws a5.out,⟨am.glb,ac,am.sz,am.ab,am.gb⟩,rfl,(aY.out.kept I).gm,trivial⟩
  have HT:Hid _:=JrH (tl:=tlN) KN.ok (aZ.out w.heap.size) 500 x [] σ () (res,()) ag w5 ad _ none gm (PX.keepT (XKeep.kept I) a6.out) aN;have aj:Hid _:=G;have af:Hid _:=c2;have aC:Hid _:=aD;have aF:Hid _:=ac;clear ag c0 G c2 U aD bn am ac aN I aA bf aZ aS a3 a5 aY a6 hE
  go_wp2_with fail
  refine Vac HT.out ?_
  intro e w6 hE
  cases res with
  |er j=>
   obtain⟨he,_,bm⟩:=hE;rw[show e=_ from he];have bs:=Gk.ofKw bm;have J:=bs.oth (by decide) aj.out;have O:=bs.oth (by decide) af.out;have d:=Kw.keptBy aC.out bm aF.out;clear he HT;refine VbE (f:=124) (args:= #[.pointer (some ⟨w.heap.size+1,0,none⟩),.pointer (some ⟨w.heap.size+1+1,0,none⟩)]) (by simp) (by simp[go_sem]) ?_
   refine(Jcn ⟨w.heap.size+1,0,none⟩ ⟨w.heap.size+1+1,0,none⟩ .nilIface .nilIface 407 (.pointer (some (A j))) [] w6 ?_ ?_ ?_ ?_ ?_).mono ?_
   .simp[Vet,J]
   .simp[Veu,J]
   .simp[Vet,O]
   .simp[Veu,O]
   .simp
   rintro e u' w7 ⟨rfl,rfl,ak⟩;obtain⟨cp,cq,Y,aE,aa,au⟩:=Jej J O (by omega) ak
   have HF:Hid (Kept w w7/\TtO A w (.returned (.tuple #[.nilIface,.iface 407 (.pointer (some (A j)))])) w7 none (.er j)):=by
    refine⟨⟨Y.trans d.os,aE.trans d.output,Vas d.size aa,fun k hk=> ?_⟩,rfl⟩
    have e:w6.heap[k]? =w.heap[k]? :=d.block k hk;have W:w.heap[k]? =some (w.heap[k]'hk):=by simp
    rw[W];exact au k _ (by omega) (e.trans W)
   clear ak;simp[Leaves,settle,results,VdF,go_sem,cp,cq];exact HF.out
  |ok q=>
   obtain⟨v6,aw,rfl,ay,ax,bv,_,an⟩:=hE;obtain⟨E,D,rfl⟩:=ay.iface;have J:=an.oth (by decide) aj.out;have O:=an.oth (by decide) af.out;have d:=Kw.keptBy aC.out an.kw aF.out
   have aO:∀a,a∈aw->w.heap.size<=a:=fun a Z=>by
    obtain⟨⟨uu,rfl,hu⟩,_⟩:=an;simp at Z
    rcases Z with Z|Z
    .exact aF.out a Z
    .exact Vas aC.out.size (hu a Z)
   have e1:w6.cell? ⟨w.heap.size+1,0,none⟩=some .nilIface:=by simp[Vet,J]
   have W:w6.frozen? ⟨w.heap.size+1,0,none⟩=false:=by simp[Veu,J]
   have Y:∀k,k≠w.heap.size+1->(w6.setCell ⟨w.heap.size+1,0,none⟩ (.iface E D)).heap[k]? =w6.heap[k]? :=fun k hk=>Vaj _ _ _ k (fun z=>hk z)
   have bp:(w6.setCell ⟨w.heap.size+1,0,none⟩ (.iface E D)).heap[w.heap.size+1]? =some (.cells #[.iface E D] 156 (0,0)):=by simp[Vev,J,Vay]
   have al:=(Y (w.heap.size+1+1) (by omega)).trans O;have e3:(w6.setCell ⟨w.heap.size+1,0,none⟩ (.iface E D)).cell? ⟨w.heap.size+1+1,0,none⟩=some .nilIface:=by rw[Vet];simp only[al];rfl
   have e4:(w6.setCell ⟨w.heap.size+1,0,none⟩ (.iface E D)).frozen? ⟨w.heap.size+1+1,0,none⟩=false:=by rw[Veu];simp only[al];rfl
   have M:=Kept.again al
   have aq: ¬w.heap.size+1∈aw:=fun z=>by
    obtain⟨τ,s1,_⟩:=ax;obtain⟨oo,h8,bF,ee,ff,rfl,ht⟩:=s1.tb z;rw[J]at h8;simp only[Vaa,VaT]at h8;obtain⟨_,rfl,_⟩:=h8
    rcases ht with e|e|e|e<;>cases e
   have bg:SX (w6.setCell ⟨w.heap.size+1,0,none⟩ (.iface E D)) aw q.2:=ax.keep (fun b oo hb bB=>(Y b (fun z=>aq (z▸hb))).trans bB);have bc:Kept w (w6.setCell ⟨w.heap.size+1,0,none⟩ (.iface E D)):=⟨d.os,d.output,by simpa using d.size,fun k hk=>(Y k (by omega)).trans (d.block k hk)⟩
   have HF:Hid (Kept w ((w6.setCell ⟨w.heap.size+1,0,none⟩ (.iface E D)).setCell ⟨w.heap.size+1+1,0,none⟩ .nilIface)/\TtO A w (.returned (.tuple #[.iface E D,.nilIface])) ((w6.setCell ⟨w.heap.size+1,0,none⟩ (.iface E D)).setCell ⟨w.heap.size+1+1,0,none⟩ .nilIface) none (.ok q)):=⟨bc.trans M,E,D,aw,rfl,ay,bg.kept M,aO⟩
   have x1:=M.blk bp;have x2:=M.blk al;have cp:((w6.setCell ⟨w.heap.size+1,0,none⟩ (.iface E D)).setCell ⟨w.heap.size+1+1,0,none⟩ .nilIface).cell? ⟨w.heap.size+1,0,none⟩=some (.iface E D):=by rw[Vet];simp only[x1];rfl
   have cq:((w6.setCell ⟨w.heap.size+1,0,none⟩ (.iface E D)).setCell ⟨w.heap.size+1+1,0,none⟩ .nilIface).cell? ⟨w.heap.size+1+1,0,none⟩=some .nilIface:=by rw[Vet];simp only[x2];rfl
   clear bg bc M aq aO d J O bp al Y x1 x2 ay ax bv an HT
   go_wp2_with fail
   refine VbE (f:=124) (args:= #[.pointer (some ⟨w.heap.size+1,0,none⟩),.pointer (some ⟨w.heap.size+1+1,0,none⟩)]) (by simp) (by simp[go_sem]) ?_
   refine(Jei ⟨w.heap.size+1,0,none⟩ ⟨w.heap.size+1+1,0,none⟩ _).mono ?_
   rintro e u' bI ⟨rfl,rfl,rfl⟩;simp[Leaves,settle,results,VdF,go_sem,cp,cq];exact HF.out
theorem Jns:∀(n:Nat) {σ:St} {r:TR} {t:Ty},JeT n σ r=some t->Dn σ r t:=by
 intro n
 induction n with
 |zero=>intro σ r t h;simp[JeT]at h
 |succ n D=>
  intro σ r t h;simp only[JeT,Vab]at h;obtain⟨J,d,h⟩:=h;have d:=Jcg _ d
  cases J with
  |int=>simp only[Vaa]at h;subst h;exact .int r d
  |bool=>simp only[Vaa]at h;subst h;exact .bool r d
  |nd k i=>
   obtain⟨nk,rfl,G⟩:=d.rt;simp only[G]at h
   cases nk with
   |vr nm g=>simp only[Vaa]at h;subst h;exact .var r i d
   |ls x=>
    simp only[Vab,Vaa]at h;obtain⟨a,E,rfl⟩:=h;exact .list r i x a d G (D E)
   |pr x y=>
    simp only[Vab,Vaa]at h;obtain⟨a,E,c,I,rfl⟩:=h;exact .pair r i x y a c d G (D E) (D I)
   |ar x y=>
    simp only[Vab,Vaa]at h;obtain⟨a,E,c,I,rfl⟩:=h;exact .fn r i x y a c d G (D E) (D I)
theorem JeV(s:BA)(em:Nat)(fl:Int)(w:World)(R:TypeId->Value->World->Prop)(d:Hid (Calls prog 93 #[.agg #[.int .i64 fl,.nilFunc],.string s,.map (some em)] w fun e w'=>∃T z,e= .returned (.tuple #[.nilIface,.iface T z])/\Hid (R T z w'))):
  Calls prog 63 #[.string s,.map (some em),.int .i64 fl,.nilFunc] w fun e w'=>∃T z,e= .returned (.tuple #[.string ⟨#[]⟩,.iface T z])/\Hid (R T z w'):=by
 go_enter func63,ntmps63
 go_wp2_with fail
 refine Vac d.out ?_
 rintro e E ⟨T,z,rfl,D⟩;clear d
 go_wp2
 exact VaI (v:= .tuple #[.string ⟨#[]⟩,.iface T z]) (by simp[results,results63,go_sem]) rfl ⟨T,z,rfl,D⟩
theorem JnC(s:BA)(em:Nat)(fl:Int)(w:World)(t:Ty)(hs:sz t<=120)(HP:Hid (Calls prog 93 #[.agg #[.int .i64 fl,.nilFunc],.string s,.map (some em)] w fun e w'=>∃v ad σ r,e= .returned (.tuple #[v,.nilIface])/\SX w' ad σ/\RV ad r v/\Dn σ r t/\(∀c,c∈ad->w.heap.size<=c)/\Kept w w')):
  Calls prog 63 #[.string s,.map (some em),.int .i64 fl,.nilFunc] w fun e w'=>e= .returned (.tuple #[.string (canT t),.nilIface])/\Kept w w':=by
 go_enter func63,ntmps63
 go_wp2_with fail
 refine Vac HP.out ?_
 rintro e M ⟨v,ad,σ,r,rfl,hx,J,L,hA,O⟩;have W:Hid _:=Jiq M;have Y:Hid (∀d E D,d.heap[E]? =some (.cells #[.map (some D)] 215 (0,0))->NM d D []->Kp (fun _=>False) M d->Calls prog 81 #[v,.func (.func 113) #[] #[.pointer (some ⟨E,0,none⟩)]] d fun e w'=>e= .returned (.string (canT t))/\SX w' ad σ/\Kt ad (·=D) d w'):=fun d E D h1 h2 h3=>Jiz d E D ad σ r t v (hx.keep (fun _ _ _ ho=>h3.blk ho id)) J L (by omega) h1 (by have:=h2.mp;simpa[Jbt]using this)
 obtain⟨T,u,rfl⟩:=J.iface;have I:Hid _:=O;clear HP hx J L O
 go_wp2_with fail
 refine Vac W.out ?_
 rintro e d ⟨E,D,rfl,Z,V,G,ae⟩;have U:Hid _:=Y.out d E D Z V G;clear W Y Z V
 go_wp2_with fail
 refine Vac U.out ?_
 rintro e w3 ⟨rfl,_,aa⟩
 have ac:Hid (Kept w w3):=Kt.keptFrom (I.out.trans (Kept.of0 G)) aa (fun q hq z=>by
  have z:q=D:=z;have:=I.out.size;omega) hA
 clear U aa G I
 go_wp2
 exact VaI (v:= .tuple #[.string (canT t),.nilIface]) (by simp[results,results63,go_sem]) rfl ⟨rfl,ac.out⟩
theorem Jde(s:BA)(em:Nat)(fl:Int)(w:World)(R:Value->World->Prop)(D:Hid (Calls prog 63 #[.string s,.map (some em),.int .i64 fl,.nilFunc] w fun e w'=>∃a b,e= .returned (.tuple #[a,b])/\R (.tuple #[a,b]) w')):
  Calls prog 54 #[.string s,.map (some em),.int .i64 fl] w fun e w'=>∃v,e= .returned v/\R v w':=by
 go_enter func54,ntmps54
 go_wp2_with fail
 refine Vac D.out ?_
 rintro e G ⟨a,b,rfl,d⟩;have E:Hid _:=d;clear D d
 go_wp2
 exact VaI (v:= .tuple #[a,b]) (by simp[results,results54,go_sem]) rfl ⟨_,rfl,E.out⟩
inductive IfO where
 |txt (t:BA)|sen (j:Nat)|unb (loc:Nat) (n:BA)
def Je7(d:Bool)(fl:Nat)(s:BA)(kvs:List (BA×BA)):Option IfO:=
 (exO s).bind fun x=>(gvF kvs [] []).bind fun g=>(chkF d g.1 500 x []).bind fun ck=>match ck with
  |some q=>some (.unb q.1 q.2)
  |none=>(typF tlN d g.1 fl 500 x [] g.2 ()).bind fun r=>match r.1 with
   | .er j=>some (.sen j)
   | .ok q=>(JeT 500 q.2 q.1).bind fun t=>if sz t<=120 then some (.txt (canT t))else none
def InfO(A:Nat->Addr):IfO->Value->World->Prop
 | .txt t,v,_=>v= .tuple #[.string t,.nilIface]
 | .sen j,v,_=>v= .tuple #[.string ⟨#[]⟩,.iface 407 (.pointer (some (A j)))]
 | .unb loc n,v,w'=>∃b,v= .tuple #[.string ⟨#[]⟩,.iface 135 (.pointer (some ⟨b,0,none⟩))]/\w'.heap[b]? =some (.cells #[.int .i64 loc,.string n] 148 (0,0))
variable {o:IfO}
theorem Jl6{em:Nat}(w:World)(W:Glb A w)(Z:SM w em kv)(U:kv.length<=1000)(O:∀y,y∈kv->y.1.size<=1000)(hp:kvs.Perm kv)(ac:(kvs.map fun y=>y.1.data.toList).Pairwise (fun x y=>decide (x<=y)=true))(M:1<=fl)(I:fl<=12)
 (J:rk=true->∀gv f,SCk gv f->SCg gv f)(Y:rk=true->∀B gv f,STf A B KN gv fl .nilFunc f->SGr tlN A B KN gv fl .nilFunc f)(h:Je7 rk fl s kvs=some o):
  Calls prog 54 #[.string s,.map (some em),.int .i64 fl] w fun e w'=>∃v,e= .returned v/\Kept w w'/\InfO A o v w':=by
 simp only[Je7,Vab]at h;obtain⟨x,V,⟨gv,σ⟩,L,ck,aa,h⟩:=h
 cases ck with
 |some q=>
  simp only[Vaa]at h;subst h;have D:=Joo (res:= .er 0) w W Z U O hp ac M I V L aa (fun z=>by cases z) (fun z=>J z gv) (fun B z=>Y z B gv);refine Jde s em fl w (fun v w'=>Kept w w'/\InfO A (.unb q.1 q.2) v w') ((JeV s em fl w (fun T z w'=>Kept w w'/\∃b,T=135/\z= .pointer (some ⟨b,0,none⟩)/\w'.heap[b]? =some (.cells #[.int .i64 q.1,.string q.2] 148 (0,0))) (D.mono (fun e w' d=> ?_))).mono ?_)
  .obtain⟨hk,b,rfl,E⟩:=d;exact⟨_,_,rfl,hk,b,rfl,rfl,E⟩
  .rintro e w' ⟨T,z,rfl,G⟩;obtain⟨hk,b,rfl,rfl,E⟩:=G.out;exact⟨_,_,rfl,hk,b,rfl,E⟩
 |none=>
  simp only[Vab]at h;obtain⟨⟨r,⟨⟩⟩,hr,h⟩:=h;have D:=Joo (res:=r) w W Z U O hp ac M I V L aa (fun _=>hr) (fun z=>J z gv) (fun B z=>Y z B gv)
  cases r with
  |er j=>
   simp only[Vaa]at h;subst h;refine Jde s em fl w (fun v w'=>Kept w w'/\InfO A (.sen j) v w') ((JeV s em fl w (fun T z w'=>Kept w w'/\T=407/\z= .pointer (some (A j))) (D.mono (fun e w' d=> ?_))).mono ?_)
   .obtain⟨hk,rfl⟩:=d;exact⟨_,_,rfl,hk,rfl,rfl⟩
   .rintro e w' ⟨T,z,rfl,G⟩;obtain⟨hk,rfl,rfl⟩:=G.out;exact⟨_,_,rfl,hk,rfl⟩
  |ok q=>
   simp only[Vab]at h;obtain⟨t,ht,h⟩:=h
   split at h
   .rename_i ae;simp only[Vaa]at h;subst h;refine Jde s em fl w (fun v w'=>Kept w w'/\InfO A (.txt (canT t)) v w') ((JnC s em fl w t ae (D.mono (fun e w' d=> ?_))).mono ?_)
    .obtain⟨hk,T,u,ad,rfl,hv,hs,ha⟩:=d;exact⟨_,ad,q.2,q.1,rfl,hs,hv,Jns _ ht,ha,hk⟩
    .rintro e w' ⟨rfl,hk⟩;exact⟨_,_,rfl,hk,rfl⟩
   .simp at h
def RowS(w:World)(v:Value)(l:List BA):Prop:=∃d cap g,v= .slice d l.length cap/\∀(q:Nat) (x:BA),l[q]? =some x->d=some ⟨g,0,none⟩/\∃D,w.heap[g]? =some (.cells D 9 (0,0))/\D[q]? =some (.string x)
variable {w':World}{l:List BA}
theorem RowS.kept(h:RowS w v l)(k:Kept w w'):RowS w' v l:=by
 obtain⟨D,cap,g,J,G⟩:=h
 exact⟨D,cap,g,J,fun q x M=>by
  obtain⟨d,I,L,E⟩:=G q x M;exact⟨d,I,k.blk L,E⟩⟩
theorem Ibi(w:World):(Instr.makeMap 94 none).run prog w= .ok (.map (some w.heap.size)) (w.alloc (.map #[] 0)):=by kernel_rfl
variable {nv tv:Value}
theorem JnT(hn:RowS w nv (kv.map Vex))(ht:RowS w tv (kv.map Prod.snd))(hd:(kv.map Vex).Nodup)(hl:kv.length<=1000):
  Calls prog 53 #[nv,tv] w fun e w'=>∃V,e= .returned (.map (some V))/\SM w' V kv/\Kept w w'/\w.heap.size<=V:=by
 obtain⟨ao,cap,g,rfl,hr⟩:=hn;obtain⟨aC,cap2,D,rfl,ah⟩:=ht;have m1:=Ibi w;have aj:Kept w (w.alloc (.map #[] 0)):=Kept.alloc _ _;have ak:=Vag w (.map #[] 0);rw[Vbe,Vbe]
 go_enter func53,ntmps53
 go_wp2_with fail
 generalize w.alloc (.map #[] 0)=ai at*;have HR:Hid _:=hr;have al:Hid _:=ah;have ae:Hid _:=aj;have HD:Hid _:=hd;have an:Hid _:=ak;clear hr ah aj ak m1 hd
 go_loopw [10] (fun i wr=>∃q:Nat,q<=kv.length/\i= .int .i64 q/\Hid (SM wr w.heap.size (kv.take q))/\Hid (Kt [] (fun q=>q=w.heap.size) ai wr)) (fun i _=>kv.length-(intOf i).toNat)
 case atStart=>exact⟨0,VaN _,rfl,⟨an.out,by simp⟩,Kt.refl _ _ _⟩
 case round=>
  clear an;obtain⟨q,hq,rfl,I,O⟩:=hrel
  by_cases E:q<kv.length
  .obtain⟨⟨n,ty⟩,d⟩:∃y,kv[q]? =some y:=⟨kv[q],by simp[E]⟩
   obtain⟨rfl,W,U,T⟩:=HR.out q n (by rw[VbK,d];rfl);obtain⟨rfl,aB,Y,af⟩:=al.out q ty (by rw[VbK,d];rfl)
   have tk:kv.take (q+1)=kv.take q++ [(n,ty)]:=by
    rw[Va9 E];congr 2
    rw[Vav E]at d;simpa using d
   have L:Kt [] (fun q=>q=w.heap.size) ai wr.drew:=O.out.trans (Kt.of_kept (Kept.drew wr))
   have G:∀(W:Array Value),¬TB (.cells W 9 (0,0)):=by
    rintro W ⟨aD,e,f,he,ht⟩;simp only[VaT]at he;obtain⟨_,rfl,_⟩:=he
    rcases ht with e|e|e|e<;>cases e
   have ay:=Vah U;have av:=Vah Y;have aa:=L.blk g _ (ae.out.blk U) (by show¬g=w.heap.size;omega) (G _);have ac:=L.blk D _ (ae.out.blk Y) (by show¬D=w.heap.size;omega) (G _);have c1:wr.drew.cell? ⟨g,q,none⟩=some (.string n):=by simp[Vet,aa,T]
   have c2:wr.drew.cell? ⟨D,q,none⟩=some (.string ty):=by simp[Vet,ac,af]
   have M:SM wr.drew w.heap.size (kv.take q):=⟨(Kept.drew wr).blk I.out.mp,I.out.nd⟩
   have ag:(kv.take q).findIdx? (fun x=>Jag x.1 n)=none:=by
    rw[Vbv];intro x hx;rw[Vbm];intro z;have z:=(Jaf _ _).1 z;have aq:(kv.map Vex).Nodup:=HD.out;have e:kv.map Vex=(kv.take q).map Vex++(kv.drop q).map Vex:=by rw[<-Vbu,Vdh]
    rw[e,VbU]at aq
    have h3:n∈(kv.drop q).map Vex:=by
     rw[Vbl E];rw[Vav E]at d;simp only[Vaa]at d;simp[d]
    exact aq.2.2 x.1 (VcO hx) n h3 z
   obtain⟨w6,aE,Z,J⟩:∃w6,(Instr.mapUpdate 94 (.map (some w.heap.size)) (.string n) (.agg #[.string ty])).run prog wr.drew= .ok () w6/\SM w6 w.heap.size (kv.take q++ [(n,ty)])/\Kt [] (fun q=>q=w.heap.size) wr.drew w6:=⟨_,Jiw 94 VbZ wr.drew w.heap.size (kv.take q) n ty M ag,M.put n ty ag,Kt.mapset M.mp _⟩
   rw[<-tk]at Z;have am:=J.blk g _ aa (by show¬g=w.heap.size;omega) (G _);have au:=J.blk D _ ac (by show¬D=w.heap.size;omega) (G _);have c3:w6.cell? ⟨g,q,none⟩=some (.string n):=by simp[Vet,am,T]
   have c4:w6.cell? ⟨D,q,none⟩=some (.string ty):=by simp[Vet,au,af]
   have ax:Hid _:=Z;have aw:Hid _:=L.trans J;clear M ag J L aa ac U Y T af d G tk I O ay av Z am au
   go_wp2_with fail
   go_region_held3 (fun w'=>w'.cell? ⟨g,q,none⟩=some (.string n)/\w'.cell? ⟨D,q,none⟩=some (.string ty)) (go_keep) (fail)
   all_goals
    go_wp2
    go_roundw
    case measure=>simp[intOf];omega
    case rel=>exact⟨q+1,E,by go_num,ax.out,aw.out⟩
  .have aA:q=kv.length:=by omega
   subst aA;have HF:Hid (SM wr w.heap.size kv):=by have:=I.out;rwa[VbA]at this
   have az:Hid (Kept w wr):=Kt.keptBy ae.out O.out (fun q z=>by have z:q=w.heap.size:=z;omega);clear I O HR al
   go_wp2
   go_ret
   exact⟨_,rfl,HF.out,az.out,Vau _⟩
theorem Jpv{P:Program}(w:World)(ty:TypeId)(E M D c0:Nat)(seen:Array Nat)(G:Array MapEntry)(T:Nat)(O:w.heap[E]? =some (.mapIter (some M) D seen c0))(hb:w.heap[M]? =some (.map G T))(Y:∀x∈G.toList,x.born<D)(ah:D<=c0):
  ((leftOf G seen).size=0/\(Vey (.pointer (some ⟨E,0,none⟩)) false ty).run P w= .ok (.tuple #[.bool false]) w)\/
  ∃e∈(leftOf G seen).toList,∃d:World,(Vey (.pointer (some ⟨E,0,none⟩)) false ty).run P w= .ok (.tuple #[.bool true,e.key,e.val]) d/\d.heap[E]? =some (.mapIter (some M) D (seen.push e.born) T)/\(∀k,k≠E->d.heap[k]? =w.heap[k]?)/\d.os=w.os/\d.output=w.output/\d.heap.size=w.heap.size:=by
 simp only[Vey,getObj,Va8,Sem.run,O,hb,VeA,next_test_false seen G D c0 Y ah,Vao,VaS];unfold leftOf;have V:∀x∈(Array.filter (fun e=> !seen.contains e.born) G).toList,x.born<D:=fun x I=>Y x (by simp at I⊢;exact I.1)
 generalize Array.filter (fun e=> !seen.contains e.born) G=L at V⊢;have e1:L.filter (fun x=>decide (x.born<D))=L:=Array.filter_eq_self.2 (fun x I=>by simpa using V x (by simpa using I))
 have e2:L.filter (fun x=>decide (x.born≥D))= #[]:=by
  rw[Array.filter_eq_empty_iff];intro x I;have:=V x (by simpa using I);simp;omega
 simp only[e1,e2,Array.append_empty]
 by_cases W:L.size=0
 .left;have:L= #[]:=VdE W;subst this;refine⟨rfl,?_⟩
  simp[choose,Sem.run,Question.forced]
 .right;have aa:L.isEmpty=false:=by simp[Array.isEmpty,W]
  simp only[aa,Vao,VaS,Array.empty_append,Array.size_map]
  have ai:∃(j:Nat) (d:World),j<L.size/\d.Alike w/\(choose (Question.mapNext L.size)).run P w= .ok j d:=by
   by_cases Z:L.size<=1
   .exact⟨0,w,by omega,⟨rfl,rfl,rfl⟩,by simp[choose,Sem.run,Question.forced,Z]⟩
   .exact⟨_,w.drew,Vd8 _ (by omega),⟨rfl,rfl,rfl⟩,by
     simp only[choose,Sem.run,Question.forced,Va1,Z,VaS,Question.cut];rfl⟩
  obtain⟨j,d,hj,J,ae⟩:=ai;have af:E<w.heap.size:=Vah O;have ac:d.heap[E]? =some (.mapIter (some M) D seen c0):=by rw[J.1];exact O
  have ag:∀U,(setObj E U).run P d= .ok () (Idd d E U):=fun U=>by
   simp only[setObj,Sem.run,ac];rfl
  refine⟨L[j],by simp,Idd d E (.mapIter (some M) D (seen.push L[j].born) T),?_,JaV _ _ _ (by rw[J.1];exact af),fun k hk=>by rw[Jau _ _ _ _ hk,J.1],J.2.1,J.2.2,by simp[Idd,J.1]⟩
  simp only[ae,Array.getElem?_map,Vd5 hj,VaE,Va8,ag,VeA];rfl
theorem JlX{P:Program}(w:World)(D E I:Nat)(seen:Array Nat)(d:Array MapEntry)(G:Nat)(e:MapEntry)(M:w.heap[D]? =some (.mapIter (some E) I (seen.push e.born) G))(O:w.heap[E]? =some (.map d G))(L:e∈d.toList)(T:(d.toList.map (·.born)).Nodup):
  (Vez (.pointer (some ⟨D,0,none⟩))).run P w= .ok (.tuple #[e.key,e.val]) w:=by
 have J:d.find? (·.born==e.born)=some e:=by rw[<-Array.find?_toList];exact find_born e d.toList T L
 simp only[Vez,getObj,Va8,Sem.run,M,O,VeA,Array.back?_push,bne_self_eq_false,Vao,VaS,J];rfl
theorem Jlo{e:MapEntry}(h:e∈(tEs kv).toList):∃j,j<kv.length/\e=tEnt kv j:=by
 simp only[tEs,Vbj,VcC]at h;obtain⟨j,d,rfl⟩:=h;exact⟨j,d,rfl⟩
theorem Jlp(kv:List (BA×BA)):((tEs kv).toList.map (·.born)).Nodup:=by
 have:(tEs kv).toList.map (·.born)=List.range kv.length:=by
  simp only[tEs,Vdk];exact List.map_id _
 rw[this];exact VdJ
theorem Iby(x:BA)(w:World):(part 9 #[.string x] 0).run prog w= .ok (.string x) w:=by kernel_rfl
theorem eqT1(x:BA)(w:World)(d:Nat):(Op.equalIn (d+1) 9 (.string x) (.string x)).run prog w= .ok true w:=by
 rw[Op.equalIn];simp[VaM VaR,Jjs]
theorem eqT2(x:BA)(w:World)(d:Nat):(Op.equalIn (d+1+1) 102 (.agg #[.string x]) (.agg #[.string x])).run prog w= .ok true w:=by
 rw[Op.equalIn];simp[VaM underlying102,Iby,eqT1,VeA]
theorem neT(x:BA)(w:World):(binOp .neq 102 (.agg #[.string x]) (.agg #[.string x])).run prog w= .ok (.bool false) w:=by
 have h:(Op.equal 102 (.agg #[.string x]) (.agg #[.string x])).run prog w= .ok true w:=eqT2 x w 9998;simp[binOp,h,VeA]
variable {m1 m2:Nat}
theorem Jko(I:SM w m1 kv)(L:SM w m2 kv):
  Calls prog 55 #[.map (some m1),.map (some m2)] w fun e w'=>e= .returned (.bool true)/\Kept w w':=by
 have av:=run_range_map (P:=prog) w 94 9 102 m1 (tEs kv) kv.length VbZ I.mp;have am:(tEs kv).size=kv.length:=by simp[tEs]
 have az:(Builtin.len_ #[94] 3 #[.map (some m1)]).run prog w= .ok (.int .i64 (kv.length:Int)) w:=by
  simp[Builtin.len_,VaM VbZ,VaQ I.mp,VeA,am,goInt]
 have aq:(Builtin.len_ #[94] 3 #[.map (some m2)]).run prog w= .ok (.int .i64 (kv.length:Int)) w:=by
  simp[Builtin.len_,VaM VbZ,VaQ L.mp,VeA,am,goInt]
 have H1:Hid _:=I;have U:Hid _:=L;clear I L
 go_enter func55,ntmps55
 go_wp2_with fail
 clear az aq av;have al:=Vag w (.mapIter (some m1) kv.length #[] kv.length);have ac:Kept w (w.alloc (.mapIter (some m1) kv.length #[] kv.length)):=Kept.alloc _ _;generalize w.alloc (.mapIter (some m1) kv.length #[] kv.length)=W at*
 go_loopw [] (fun w'=>∃seen:Array Nat,Hid (w'.heap[w.heap.size]? =some (.mapIter (some m1) kv.length seen kv.length))/\Hid (Kept w w')) (fun w'=>(leftOf (tEs kv) (w'.iterSeen w.heap.size)).size)
 case atStart=>exact⟨#[],al,ac⟩
 case round=>
  clear al ac;obtain⟨seen,ah,D⟩:=hrel;have V:wr.heap[m1]? =some (.map (tEs kv) kv.length):=D.out.blk H1.out.mp;have aA:=Jpv (P:=prog) wr 0 w.heap.size m1 kv.length kv.length seen (tEs kv) kv.length ah.out V (fun x hx=>by obtain⟨i,G,rfl⟩:=Jlo hx;exact G) (Vau _)
  rcases aA with⟨h0,E⟩|⟨e,J,d,E,O,aa,an,Y,ag⟩
  .have ax:∀ty,(Vey (.pointer (some ⟨w.heap.size,0,none⟩)) false ty).run prog wr= .ok (.tuple #[.bool false]) wr:=fun _=>E
   clear E V h0
   go_wp2
   go_ret
   exact⟨rfl,D.out⟩
  .obtain⟨i,G,rfl⟩:=Jlo (mem_left J).1;have ax:∀ty,(Vey (.pointer (some ⟨w.heap.size,0,none⟩)) false ty).run prog wr= .ok (.tuple #[.bool true,.string (kAt kv i).1,.agg #[.string (kAt kv i).2]]) d:=fun _=>E
   have M:Kept w d:=⟨an.trans D.out.os,Y.trans D.out.output,by rw[ag];exact D.out.size,fun k hk=>(aa k (by omega)).trans (D.out.block k hk)⟩
   have ak:d.heap[m1]? =some (.map (tEs kv) kv.length):=M.blk H1.out.mp;have aC:(Vez (.pointer (some ⟨w.heap.size,0,none⟩))).run prog d= .ok (.tuple #[.string (kAt kv i).1,.agg #[.string (kAt kv i).2]]) d:=JlX d w.heap.size m1 kv.length seen (tEs kv) kv.length (tEnt kv i) O ak (mem_left J).1 (Jlp kv)
   have af:∀W,Kept w W->(Instr.lookup 94 (.map (some m2)) (.string (kAt kv i).1) true).run prog W= .ok (.tuple #[.agg #[.string (kAt kv i).2],.bool true]) W:=fun W hW=>by
    have:=JeI 94 VbZ W m2 kv (kAt kv i).1 ⟨hW.blk U.out.mp,U.out.nd⟩;rw[this];have gd:kAt kv i=kv[i]:=by simp[kAt,List.getD,G]
    have:kv.findIdx? (fun x=>Jag x.1 (kAt kv i).1)=some i:=by
     rw[VaZ];refine⟨G,(Jaf _ _).2 (by rw[gd]),?_⟩
     intro j hj z;have z:=(Jaf _ _).1 z;have:=(VaF.1 U.out.nd) j i (by simp;omega) (by simpa using G) hj;simp at this;rw[gd]at z;exact this z
    rw[this]
   have ao:Hid _:=O;have ae:Hid _:=M;have Z:Hid _:=af;have au:Hid _:=J;have aw:Hid _:=ah.out;clear E V ak O M aa an Y ag J af;have T:Kept w (d.alloc (.cells #[.string (kAt kv i).2] 102)):=ae.out.trans (Kept.alloc _ _);have aj:Kept w ((d.alloc (.cells #[.string (kAt kv i).2] 102)).alloc (.cells #[.string (kAt kv i).2] 102)):=T.trans (Kept.alloc _ _);have aD:=Z.out _ T;have aB:=neT (kAt kv i).2 ((d.alloc (.cells #[.string (kAt kv i).2] 102)).alloc (.cells #[.string (kAt kv i).2] 102));have ay:Hid _:=aj;have ai:Hid (((d.alloc (.cells #[.string (kAt kv i).2] 102)).alloc (.cells #[.string (kAt kv i).2] 102)).heap[w.heap.size]? =some (.mapIter (some m1) kv.length (seen.push (tEnt kv i).born) kv.length)):=((Kept.alloc _ _).trans (Kept.alloc _ _)).blk ao.out;clear T aj Z ae
   go_wp2_with fail
   refine⟨⟨_,ai.out,ay.out⟩,?_⟩
   have q1:((d.alloc (.cells #[.string (kAt kv i).2] 102)).alloc (.cells #[.string (kAt kv i).2] 102)).iterSeen w.heap.size=seen.push (tEnt kv i).born:=by
    unfold Vew;rw[ai.out]
   have q2:wr.iterSeen w.heap.size=seen:=by
    unfold Vew;rw[aw.out]
   rw[q1,q2];exact left_shrinks (tEs kv) seen (tEnt kv i) au.out
end Go.Proofs.YtleenphlgbklmaaGreatDoor
