import Derived.Test.YtleenphlgbklmaaGreatDoorACPPf
set_option linter.unusedVariables false
set_option linter.unusedSimpArgs false
set_option maxRecDepth 100000
set_option maxHeartbeats 8000000
namespace Go.Proofs.YtleenphlgbklmaaGreatDoor
open Go.RowKit
open World renaming cell? → Vet, frozen? → Veu, setCell → Vev
open Tryz
variable {w:World}{n d:Nat}
theorem JqR(w:World):(fltW w).heap[w.heap.size+1+1]? =some (.cells #[.pointer none] 135 (0,0)):=by
 unfold fltW;rw[VaA _ _ _ (by simp)];have:=Vag ((w.alloc (.cells #[.int .i64 0,.int .i64 0,.string ⟨#[]⟩,.int .i64 0,.int .i64 0] 23)).alloc (.cells #[.pointer none] 134)) (.cells #[.pointer none] 135);simpa using this
variable {A:Nat->Addr}
theorem JjQ(w:World)(hG:Glb A w)(b:Nat)(loc:Int)(n:BA)(ha:w.heap[b]? =some (.cells #[.int .i64 loc,.string n] 148 (0,0))):
  Calls prog 37 #[.iface 135 (.pointer (some ⟨b,0,none⟩))] w fun e w'=>e= .returned (Jaa 4 loc n)/\Below w.heap.size w w':=by
 have hB:=JcO w;have hr:=Jh7 w;have hs:=JqR w;have hz:=Jen w;have V:=(hG.below hB).et;have aq:b<w.heap.size:=Vah ha;have aa:(fltW w).heap[b]? =some (.cells #[.int .i64 loc,.string n] 148 (0,0)):=(hB.block _ aq).trans ha;clear hG ha
 go_enter Vep,Vec
 go_wp2_with fail
 change Calls _ _ _ (fltW w) _
 generalize fltW w=w1 at*;refine(Jdz Jlq JjN Ji0 _ _ _ V).mono ?_
 rintro e w2 ⟨rfl,G⟩;have D:Below w1.heap.size w1 w2:=by rw[G];exact(((Vbh _ _).alloc (by simp) _).alloc (by simp) _).alloc (by simp;omega) _
 clear G;have ay:=D.size;have Y:=(D.cell (Vaw _ _ V)).trans V;have ah:=(D.block _ (by omega)).trans hr;have am:=(D.block _ (by omega)).trans hs;have ac:=(D.block _ (Vah aa)).trans aa;have an:=hB.trans (D.mono (by omega));clear hB D V hr hs aa
 go_wp2_with fail
 refine(Jdz Jlr JjN Ji1 _ _ _ Y).mono ?_
 rintro e E ⟨rfl,G⟩;have D:Below w2.heap.size w2 E:=by rw[G];exact(((Vbh _ _).alloc (by simp) _).alloc (by simp) _).alloc (by simp;omega) _
 clear G;have aw:=D.size;have ai:=(D.cell (Vaw _ _ Y)).trans Y;have af:=(D.block _ (by omega)).trans ah;have U:=(D.block _ (by omega)).trans am;have ag:=(D.block _ (Vah ac)).trans ac;have al:=an.trans (D.mono (by omega));clear an D Y ah am ac
 go_wp2_with fail
 have aj:E.cell? ⟨w.heap.size+1+1,0,none⟩=some (.pointer none):=by simp[Vet,U]
 have ak:E.frozen? ⟨w.heap.size+1+1,0,none⟩=false:=by simp[Veu,U]
 refine(JnI Jol JjN.z JqY ⟨b,0,none⟩ _ _ E aj ak ai).mono ?_
 rintro e d ⟨rfl,G⟩;have J:Below E.heap.size E ((((E.alloc (.cells #[.pointer (some ⟨w.heap.size+1+1,0,none⟩)] 146)).alloc (.cells #[.pointer (some ⟨13,146,none⟩),.pointer (some ⟨E.heap.size,0,none⟩),.int .u64 150] 193)).alloc (.cells #[.pointer (some ⟨13,146,none⟩),.pointer (some ⟨E.heap.size,0,none⟩),.int .u64 150] 193)).alloc (.cells #[.pointer (some ⟨b,0,none⟩)] 135)):=((((Vbh _ _).alloc (by simp) _).alloc (by simp) _).alloc (by simp;omega) _).alloc (by simp;omega) _;generalize(((E.alloc (.cells #[.pointer (some ⟨w.heap.size+1+1,0,none⟩)] 146)).alloc (.cells #[.pointer (some ⟨13,146,none⟩),.pointer (some ⟨E.heap.size,0,none⟩),.int .u64 150] 193)).alloc (.cells #[.pointer (some ⟨13,146,none⟩),.pointer (some ⟨E.heap.size,0,none⟩),.int .u64 150] 193)).alloc (.cells #[.pointer (some ⟨b,0,none⟩)] 135)=ax at*;have az:=J.size;have I:d.heap[w.heap.size]? =some (.cells #[.int .i64 0,.int .i64 0,.string ⟨#[]⟩,.int .i64 0,.int .i64 0] 23 (0,0)):=by rw[G,Vaj _ _ _ _ (by show w.heap.size≠w.heap.size+1+1;omega),J.block _ (by omega)];exact af
 have ao:d.cell? ⟨w.heap.size+1+1,0,none⟩=some (.pointer (some ⟨b,0,none⟩)):=by
  rw[G];have:ax.heap[w.heap.size+1+1]? =some (.cells #[.pointer none] 135 (0,0)):=(J.block _ (by omega)).trans U;simp[Vet,Vev,this,Vay]
 have ae:d.heap[b]? =some (.cells #[.int .i64 loc,.string n] 148 (0,0)):=by
  rw[G,Vaj _ _ _ _ (by show b≠w.heap.size+1+1;omega),J.block _ (by omega)];exact ag
 have au:Below w.heap.size w d:=by
  rw[G];exact(al.trans (J.mono (by omega))).setCell (by show w.heap.size<=w.heap.size+1+1;omega) _
 clear G J al ai af U ag aj ak;clear hz ay az aw;have Z:d.cell? ⟨w.heap.size,0,none⟩=some (.int .i64 0):=by simp[Vet,I]
 have W:d.cell? ⟨w.heap.size,1,none⟩=some (.int .i64 0):=by simp[Vet,I]
 have O:d.cell? ⟨w.heap.size,2,none⟩=some (.string ⟨#[]⟩):=by simp[Vet,I]
 have T:d.cell? ⟨w.heap.size,3,none⟩=some (.int .i64 0):=by simp[Vet,I]
 have d4:d.cell? ⟨w.heap.size,4,none⟩=some (.int .i64 0):=by simp[Vet,I]
 have fz:∀i,d.frozen? ⟨w.heap.size,i,none⟩=false:=fun i=>by simp[Veu,I]
 have e0:d.cell? ⟨b,0,none⟩=some (.int .i64 loc):=by simp[Vet,ae]
 have e1:d.cell? ⟨b,1,none⟩=some (.string n):=by simp[Vet,ae]
 have aE:d.drew.cell? ⟨w.heap.size,0,none⟩=some (.int .i64 0):=Z;have aA:d.drew.cell? ⟨w.heap.size,1,none⟩=some (.int .i64 0):=W;have aB:d.drew.cell? ⟨w.heap.size,2,none⟩=some (.string ⟨#[]⟩):=O;have aC:d.drew.cell? ⟨w.heap.size,3,none⟩=some (.int .i64 0):=T;have aG:d.drew.cell? ⟨w.heap.size,4,none⟩=some (.int .i64 0):=d4;have aH:∀i,d.drew.frozen? ⟨w.heap.size,i,none⟩=false:=fz;have aD:d.drew.cell? ⟨b,0,none⟩=some (.int .i64 loc):=e0;have aI:d.drew.cell? ⟨b,1,none⟩=some (.string n):=e1;have aF:d.drew.cell? ⟨w.heap.size+1+1,0,none⟩=some (.pointer (some ⟨b,0,none⟩)):=ao
 go_wp2_with fail
 go_region
 all_goals
  go_wp2_with fail
  have M:(Jco d w.heap.size (.int .i64 4) (.int .i64 loc) (.string n) (.int .i64 0) (.int .i64 0)).drew.heap[w.heap.size]? =_:=JdC I (.int .i64 4) (.int .i64 loc) (.string n) (.int .i64 0) (.int .i64 0)
  have av:Below w.heap.size w (Jco d w.heap.size (.int .i64 4) (.int .i64 loc) (.string n) (.int .i64 0) (.int .i64 0)).drew:=by
   have h:=Jct au (Vau _) (.int .i64 4) (.int .i64 loc) (.string n) (.int .i64 0) (.int .i64 0);exact h.drew
  change bodyPost _ _ _ _ _ (Jco d w.heap.size (.int .i64 4) (.int .i64 loc) (.string n) (.int .i64 0) (.int .i64 0)).drew
  generalize(Jco d w.heap.size (.int .i64 4) (.int .i64 loc) (.string n) (.int .i64 0) (.int .i64 0)).drew=L at*;clear Z W O T d4;have Z:L.cell? ⟨w.heap.size,0,none⟩=some (.int .i64 4):=by simp[Vet,M]
  have W:L.cell? ⟨w.heap.size,1,none⟩=some (.int .i64 loc):=by simp[Vet,M]
  have O:L.cell? ⟨w.heap.size,2,none⟩=some (.string n):=by simp[Vet,M]
  have T:L.cell? ⟨w.heap.size,3,none⟩=some (.int .i64 0):=by simp[Vet,M]
  have d4:L.cell? ⟨w.heap.size,4,none⟩=some (.int .i64 0):=by simp[Vet,M]
  exact VaI (v:=Jaa 4 loc n) (by simp[results,VdG,go_sem,Jaa,Z,W,O,T,d4]) rfl ⟨rfl,av⟩
def envK:List (BA×BA):= [(⟨#[116,114,117,101]⟩,⟨#[98,111,111,108]⟩),(⟨#[110,105,108]⟩,⟨#[91,97,93]⟩),(⟨#[99,111,110,115]⟩,⟨#[97,32,45,62,32,91,97,93,32,45,62,32,91,97,93]⟩),(⟨#[102,115,116]⟩,⟨#[40,97,44,32,98,41,32,45,62,32,97]⟩),(⟨#[115,110,100]⟩,⟨#[40,97,44,32,98,41,32,45,62,32,98]⟩),(⟨#[97,100,100]⟩,⟨#[105,110,116,32,45,62,32,105,110,116,32,45,62,32,105,110,116]⟩),(⟨#[101,113]⟩,⟨#[97,32,45,62,32,97,32,45,62,32,98,111,111,108]⟩),(⟨#[104,100]⟩,⟨#[91,97,93,32,45,62,32,97]⟩),(⟨#[116,108]⟩,⟨#[91,97,93,32,45,62,32,91,97,93]⟩),(⟨#[101,109,112,116,121]⟩,⟨#[91,120,93,32,45,62,32,98,111,111,108]⟩)]
def envS:List (BA×BA):= [(⟨#[97,100,100]⟩,⟨#[105,110,116,32,45,62,32,105,110,116,32,45,62,32,105,110,116]⟩),(⟨#[99,111,110,115]⟩,⟨#[97,32,45,62,32,91,97,93,32,45,62,32,91,97,93]⟩),(⟨#[101,109,112,116,121]⟩,⟨#[91,120,93,32,45,62,32,98,111,111,108]⟩),(⟨#[101,113]⟩,⟨#[97,32,45,62,32,97,32,45,62,32,98,111,111,108]⟩),(⟨#[102,115,116]⟩,⟨#[40,97,44,32,98,41,32,45,62,32,97]⟩),(⟨#[104,100]⟩,⟨#[91,97,93,32,45,62,32,97]⟩),(⟨#[110,105,108]⟩,⟨#[91,97,93]⟩),(⟨#[115,110,100]⟩,⟨#[40,97,44,32,98,41,32,45,62,32,98]⟩),(⟨#[116,108]⟩,⟨#[91,97,93,32,45,62,32,91,97,93]⟩),(⟨#[116,114,117,101]⟩,⟨#[98,111,111,108]⟩)]
theorem JlY:envS.Perm envK:=by
 have h: @List.isPerm _ instBEqOfDecidableEq envS envK=true:=by kernel_rfl
 exact(@List.isPerm_iff _ instBEqOfDecidableEq _ envS envK).1 h
theorem JiN:(envS.map fun y=>y.1.data.toList).Pairwise (fun x y=>decide (x<=y)=true):=by decide+kernel
theorem JjI:(envK.map Prod.fst).Nodup:=by decide+kernel
theorem JjJ:∀y,y∈envK->y.1.size<=1000:=by decide+kernel
theorem kn_sx(w:World):Calls prog 67 #[] w fun e w'=>∃g,e= .returned (.slice (some ⟨g,0,none⟩) 10 10)/\RowS w' (.slice (some ⟨g,0,none⟩) 10 10) (envK.map Prod.fst)/\Kept w w':=by
 go_enter func67,ntmps67
 go_wp2
 go_ret
 refine⟨w.heap.size,rfl,⟨some ⟨w.heap.size,0,none⟩,10,w.heap.size,rfl,fun q x d=>⟨rfl,_,Vag _ _,?_⟩⟩,Kept.alloc _ _⟩
 show(((envK.map Prod.fst).map Value.string).toArray)[q]? =_;rw[Vej,VbK,d];rfl
theorem kt_sx(w:World):Calls prog 68 #[] w fun e w'=>∃g,e= .returned (.slice (some ⟨g,0,none⟩) 10 10)/\RowS w' (.slice (some ⟨g,0,none⟩) 10 10) (envK.map Prod.snd)/\Kept w w':=by
 go_enter func68,ntmps68
 go_wp2
 go_ret
 refine⟨w.heap.size,rfl,⟨some ⟨w.heap.size,0,none⟩,10,w.heap.size,rfl,fun q x d=>⟨rfl,_,Vag _ _,?_⟩⟩,Kept.alloc _ _⟩
 show(((envK.map Prod.snd).map Value.string).toArray)[q]? =_;rw[Vej,VbK,d];rfl
def IfO.t:IfO->BA
 | .txt t=>t
 |_=>⟨#[]⟩
def IfO.what:IfO->Int
 | .txt _=>0
 | .sen j=>Jdr j
 | .unb _ _=>4
def IfO.loc:IfO->Int
 | .unb l _=>l
 |_=>0
def IfO.s:IfO->BA
 | .unb _ n=>n
 |_=>⟨#[]⟩
def IfO.good:IfO->Prop
 | .sen j=>j<8
 |_=>True
variable {rk:Bool}{o:IfO}
theorem ki_hi{s:BA}(w:World)(O:Glb A w)(h:Je7 rk 6 s envS=some o)(hg:o.good)
 (Y:rk=true->∀gv f,SCk gv f->SCg gv f)(U:rk=true->∀B gv f,STf A B KN gv (6:Nat) .nilFunc f->SGr tlN A B KN gv 6 .nilFunc f):
  ∀W em,Kept w W->SM W em envK->Calls prog 54 #[.string s,.map (some em),.int .i64 6] W fun e w'=>Kept W w'/\∃er,e= .returned (.tuple #[.string o.t,er])/\(er= .nilIface\/∃T u,er= .iface T u)/\∀d,Kept w' d->Calls prog 37 #[er] d fun e J=>e= .returned (Jaa o.what o.loc o.s)/\Kept d J:=by
 intro W em hk V;refine(Jl6 (fl:=6) W (O.kept hk) V (by decide) JjJ JlY JiN (by omega) (by omega) Y U h).mono ?_
 rintro e w' ⟨v,rfl,L,D⟩;have M:=(O.kept hk).kept L;refine⟨L,?_⟩
 cases o with
 |txt t=>
  have D:v=_:=D;subst D;exact⟨.nilIface,rfl,.inl rfl,fun d E=>(Jc8 d).mono (fun e J ⟨G,I⟩=>⟨G,Kept.below I⟩)⟩
 |sen j=>
  have D:v=_:=D;subst D;exact⟨_,rfl,.inr ⟨_,_,rfl⟩,fun d E=>Jbs d (M.kept E) j hg⟩
 |unb l n=>
  obtain⟨b,rfl,Z⟩:=D;exact⟨_,rfl,.inr ⟨_,_,rfl⟩,fun d E=>(JjQ d (M.kept E) b l n (E.blk Z)).mono (fun e J ⟨G,I⟩=>⟨G,Kept.below I⟩)⟩
variable {ss:BA}
theorem Jdf{s t:BA}{what loc:Int}(HI:∀W em,Kept w W->SM W em envK->Calls prog 54 #[.string s,.map (some em),.int .i64 6] W fun e w'=>Kept W w'/\∃er,e= .returned (.tuple #[.string t,er])/\(er= .nilIface\/∃T u,er= .iface T u)/\∀M,Kept w' M->Calls prog 37 #[er] M fun e am=>e= .returned (Jaa what loc ss)/\Kept M am):
  Calls prog 35 #[.string s] w fun e w'=>e= .returned (.tuple #[.string t,Jaa what loc ss])/\Kept w w':=by
 have af:Hid _:=HI;have ae:Kept w (w.alloc (.cells #[.int .i64 0,.int .i64 0,.string ⟨#[]⟩,.int .i64 0,.int .i64 0] 23)):=Kept.alloc _ _;have ah:=Vag w (.cells #[.int .i64 0,.int .i64 0,.string ⟨#[]⟩,.int .i64 0,.int .i64 0] 23);clear HI
 go_enter func35,ntmps35
 go_wp2_with fail
 generalize w.alloc (.cells #[.int .i64 0,.int .i64 0,.string ⟨#[]⟩,.int .i64 0,.int .i64 0] 23)=W at*;refine Vac (kn_sx W) ?_
 rintro e w1 ⟨g,rfl,hn,O⟩;have HN:Hid _:=hn;have aj:Hid _:=O.blk ah;have ag:Hid _:=ae.trans O;clear O ah ae hn
 go_wp2_with fail
 refine Vac (kt_sx w1) ?_
 rintro e M ⟨g2,rfl,ht,I⟩;have ak:Hid _:=I.blk aj.out;have Y:Hid _:=ag.out.trans I;have HC:Hid _:=JmF (kv:=envK) (RowS.kept HN.out I) ht JjI (by decide) (fun W em hk=>af.out W em (Y.out.trans hk));clear ht I HN aj ag af
 go_wp2_with fail
 refine Vac HC.out ?_
 rintro e d ⟨rfl,Z⟩;have ac:Hid _:=Z.blk ak.out;have al:Hid _:=Y.out.trans Z;clear Z HC ak Y;unfold Jaa;have aa:=Vag d (.cells #[.int .i64 what,.int .i64 loc,.string ss,.int .i64 0,.int .i64 0] 23);have ai:Kept d (d.alloc (.cells #[.int .i64 what,.int .i64 loc,.string ss,.int .i64 0,.int .i64 0] 23)):=Kept.alloc _ _
 go_wp2_with fail
 generalize d.alloc (.cells #[.int .i64 what,.int .i64 loc,.string ss,.int .i64 0,.int .i64 0] 23)=V at*;have U:=ai.trans (Kept.drew V);have E:=U.blk ac.out;have G:=(Kept.drew V).blk aa;have L:=al.out.trans U;clear aa ai U ac al;have a0:V.drew.cell? ⟨d.heap.size,0,none⟩=some (.int .i64 what):=by simp[Vet,G]
 have a1:V.drew.cell? ⟨d.heap.size,1,none⟩=some (.int .i64 loc):=by simp[Vet,G]
 have a2:V.drew.cell? ⟨d.heap.size,2,none⟩=some (.string ss):=by simp[Vet,G]
 have a3:V.drew.cell? ⟨d.heap.size,3,none⟩=some (.int .i64 0):=by simp[Vet,G]
 have a4:V.drew.cell? ⟨d.heap.size,4,none⟩=some (.int .i64 0):=by simp[Vet,G]
 have c0:V.drew.cell? ⟨w.heap.size,0,none⟩=some (.int .i64 0):=by simp[Vet,E]
 have c1:V.drew.cell? ⟨w.heap.size,1,none⟩=some (.int .i64 0):=by simp[Vet,E]
 have c2:V.drew.cell? ⟨w.heap.size,2,none⟩=some (.string ⟨#[]⟩):=by simp[Vet,E]
 have c3:V.drew.cell? ⟨w.heap.size,3,none⟩=some (.int .i64 0):=by simp[Vet,E]
 have c4:V.drew.cell? ⟨w.heap.size,4,none⟩=some (.int .i64 0):=by simp[Vet,E]
 have f0:∀j,V.drew.frozen? ⟨w.heap.size,j,none⟩=false:=fun j=>by simp[Veu,E]
 have aD:V.cell? ⟨d.heap.size,0,none⟩=some (.int .i64 what):=a0;have ax:V.cell? ⟨d.heap.size,1,none⟩=some (.int .i64 loc):=a1;have aA:V.cell? ⟨d.heap.size,2,none⟩=some (.string ss):=a2;have aw:V.cell? ⟨d.heap.size,3,none⟩=some (.int .i64 0):=a3;have az:V.cell? ⟨d.heap.size,4,none⟩=some (.int .i64 0):=a4;have au:V.cell? ⟨w.heap.size,0,none⟩=some (.int .i64 0):=c0;have av:V.cell? ⟨w.heap.size,1,none⟩=some (.int .i64 0):=c1;have ay:V.cell? ⟨w.heap.size,2,none⟩=some (.string ⟨#[]⟩):=c2;have aC:V.cell? ⟨w.heap.size,3,none⟩=some (.int .i64 0):=c3;have aq:V.cell? ⟨w.heap.size,4,none⟩=some (.int .i64 0):=c4;have aB:∀j,V.frozen? ⟨w.heap.size,j,none⟩=false:=f0
 go_region
 all_goals
  go_wp2_with fail
  have an:V.heap[w.heap.size]? =some (.cells #[.int .i64 0,.int .i64 0,.string ⟨#[]⟩,.int .i64 0,.int .i64 0] 23 (0,0)):=E;obtain⟨D,J⟩:∃D,D=(((((V.setCell ⟨w.heap.size,0,none⟩ (.int .i64 what)).setCell ⟨w.heap.size,1,none⟩ (.int .i64 loc)).setCell ⟨w.heap.size,2,none⟩ (.string ss)).setCell ⟨w.heap.size,3,none⟩ (.int .i64 0)).setCell ⟨w.heap.size,4,none⟩ (.int .i64 0)).drew:=⟨_,rfl⟩
  have hF:D.heap[w.heap.size]? =some (.cells #[.int .i64 what,.int .i64 loc,.string ss,.int .i64 0,.int .i64 0] 23 (0,0)):=by
   rw[J];refine(Kept.drew _).blk ?_
   simp[Vev,an,Vay]
  have ao:Kept w D:=by
   rw[J];refine Kept.trans ?_ (Kept.drew _)
   refine⟨L.1,L.2,by simpa using L.3,fun q hq=> ?_⟩
   have e:∀(W:World) (j:Nat) (v:Value),(W.setCell ⟨w.heap.size,j,none⟩ v).heap[q]? =W.heap[q]? :=fun W j v=>Vaj _ _ _ q (by intro z;simp at z;omega)
   exact(e _ _ _).trans ((e _ _ _).trans ((e _ _ _).trans ((e _ _ _).trans ((e _ _ _).trans (L.4 q hq)))))
  rw[<-J];clear J;have d0:D.cell? ⟨w.heap.size,0,none⟩=some (.int .i64 what):=by simp[Vet,hF]
  have d1:D.cell? ⟨w.heap.size,1,none⟩=some (.int .i64 loc):=by simp[Vet,hF]
  have d2:D.cell? ⟨w.heap.size,2,none⟩=some (.string ss):=by simp[Vet,hF]
  have d3:D.cell? ⟨w.heap.size,3,none⟩=some (.int .i64 0):=by simp[Vet,hF]
  have d4:D.cell? ⟨w.heap.size,4,none⟩=some (.int .i64 0):=by simp[Vet,hF]
  exact VaI (v:= .tuple #[.string t,.agg #[.int .i64 what,.int .i64 loc,.string ss,.int .i64 0,.int .i64 0]]) (by simp[results,results35,go_sem,d0,d1,d2,d3,d4]) rfl ⟨rfl,ao⟩
theorem Jo1{s t:BA}(D:BA){what loc:Int}(G:Calls prog 35 #[.string s] w fun e w'=>e= .returned (.tuple #[.string t,Jaa what loc ss])/\Kept w w')(I:what=0)(ht:t=D):
  Calls prog 33 #[.string s,.string D] w fun e w'=>e= .returned (.bool true)/\Kept w w':=by
 subst I;subst ht;have d:Hid _:=G;clear G;unfold Jaa at d
 go_enter func33,ntmps33
 go_wp2_with fail
 refine Vac d.out ?_
 rintro e L ⟨rfl,E⟩;have J:Hid _:=E;clear E d
 go_wp2
 go_ret
 exact⟨rfl,J.out.trans (Kept.alloc _ _)⟩
mutual
theorem JoE:∀x:X,dp (er x)=dp x
 | .mk op names kids loc=>by simp only[er,dp,JnQ kids]
theorem JnQ:∀xs:List X,dps (ers xs)=dps xs
 | []=>rfl
 |x::xs=>by simp only[ers,dps,JoE x,JnQ xs]
end
inductive PxO where
 |long|syn (l:Int)|deep|good (x:X)
def pxO(s:BA):PxO:=
 if 300<s.size then .long
 else match expM (Jan s Jad (s.size+1) 0) 2000 0 (-1)with
  |none=> .syn 0
  |some (x,K,B)=>if 0<=Jab (Jan s Jad (s.size+1) 0) ⟨#[101,110,100]⟩ K B then .syn (Jab (Jan s Jad (s.size+1) 0) ⟨#[101,110,100]⟩ K B)else if 40<dp x then .deep else .good x
variable {x:X}
theorem Jhf{s:BA}:exO s=some x<->pxO s= .good x:=by
 unfold exO pxO
 by_cases D:300<s.size
 .rw[Vat D,Vat D];simp
 .rw[Vaq D,Vaq D];generalize Jan s Jad (s.size+1) 0=L
  cases expM L 2000 0 (-1)with
  |none=>simp
  |some q=>
   obtain⟨y,K,B⟩:=q;simp only
   by_cases hF:0<=Jab L ⟨#[101,110,100]⟩ K B
   .rw[Vat hF,Vat hF];simp
   .rw[Vaq hF,Vaq hF]
    by_cases d:40<dp y
    .rw[Vat d,Vat d];simp
    .rw[Vaq d,Vaq d];simp
theorem JiO{s:BA}(h:exO s=some x):WLx x/\dp x<=40/\tw x<=120400/\s.size<=300:=by
 unfold exO at h
 split at h
 .cases h
 .rename_i T
  split at h
  .cases h
  .rename_i y K B D
   split at h
   .cases h
   .rename_i hF
    split at h
    .cases h
    .rename_i I;simp only[Vaa]at h;subst h;obtain⟨E,U,O,d⟩:=Jak (by omega:Jab (Jan s Jad (s.size+1) 0) ⟨#[101,110,100]⟩ K B<0)
     have L:K<(Jan s Jad (s.size+1) 0).length:=by
      apply VdI
      intro G
      have e:(tkAt (Jan s Jad (s.size+1) 0) K)=Tk.no:=by
       unfold tkAt;rw[VbQ,Vbq G];rfl
      have:=Ja4 E;rw[e]at this;exact absurd this (Jac (by decide))
     have M:=JcV s Jad (s.size+1) 0;have J:=((made _ (fun k=>by have:=Jdw s Jad (s.size+1) 0 k;omega) _).e _ _ _ _ _ D d).2.2;exact⟨((Jrf _ (fun k=>Jlu s _ 0 k (VaN _)) _).e _ _ _ _ _ D d).2,by omega,by omega,by omega⟩
variable {ps:Ps}
theorem JmS{s:BA}(J:LxE (bsL s) ps)(L:RdE x ps)(U:s.size<=300):∃d,er d=er x/\pxO s=if 40<dp x then .deep else .good d:=by
 have D:=J s 0 [] (by unfold Rs bsL;simp) (.inl rfl);rw[Jg9,Vby]at D;have T:=D.le;obtain⟨M,E,O⟩:=Jhp D (s.size+1) rfl (by omega);obtain⟨d,e,G⟩:=L (Jan s Jad (s.size+1) 0) 2000 0 M (by rw[Vby];exact Jcu E (by rfl) (by rfl) (by rfl)) (by omega);refine⟨d,G,?_⟩
 have I:dp d=dp x:=by rw[<-JoE d,<-JoE x,G]
 unfold pxO;rw[Vaq (by omega),e];simp only[Vby];rw[(Jam E).2,Vaq (by decide),I]
theorem Jro(h:WLx x)(D:(txt x).size<=300):∃d,er d=er x/\pxO (txt x)=if 40<dp x then .deep else .good d:=by
 obtain⟨ps,R⟩:=JeF h;exact JmS R.lx R.rd D
variable {N G S T P:Nat}
theorem Jj4(hp:1<=P)(I:N<=S)(h:G<=300*P*T):200+N+7*G<=300*(P*8)*(S+T+16):=by
 have e:300*(P*8)*(S+T+16)=8*(300*P*T)+2400*(P*(S+16)):=by
  rw[show S+T+16=T+(S+16) by omega,Vcj];have D:300*(P*8)*T=8*(300*P*T):=by ac_rfl
  have d:300*(P*8)*(S+16)=(300*8)*(P*(S+16)):=by ac_rfl
  rw[D,d]
 have E:S+16<=P*(S+16):=Nat.le_mul_of_pos_left _ hp;rw[e];generalize 300*P*T=A at*;generalize P*(S+16)=B at*;omega
theorem JfG:∀names:List BA,names.length<=(names.map fun s=>s.size+16).sum
 | []=>by simp
 |n::d=>by
  have:=JfG d;simp only[VaP,VbY,VaY];omega
mutual
theorem Jn1:∀x:X,grw x<=300*8^dp x*tw x
 | .mk op names kids loc=>by
  have h:=Jj5 kids;simp only[grw,dp,tw];rw[Nat.pow_succ];exact Jj4 (Nat.one_le_pow _ _ (by omega)) (JfG names) h
theorem Jj5:∀xs:List X,grws xs<=300*8^dps xs*tws xs
 | []=>by simp[grws]
 |x::xs=>by
  have I:=Jn1 x;have E:=Jj5 xs;simp only[grws,dps,tws];have d:8^dp x<=8^max (dp x) (dps xs):=Vdm (by omega) (by omega);have D:8^dps xs<=8^max (dp x) (dps xs):=Vdm (by omega) (by omega);have G:=Vb9 (tw x) (Vdq 300 d);have J:=Vb9 (tws xs) (Vdq 300 D);rw[Vcj,Vcj];omega
end
theorem JqU(E:dp x<=45)(D:tw x<=120400):grw x+2000<=BB:=by
 have h:=Jn1 x;have d:8^dp x<=8^45:=Vdm (by omega) E;have G:300*8^dp x*tw x<=300*8^45*120400:=Nat.mul_le_mul (Vdq 300 d) D;have I:300*8^45*120400+2000<=BB:=by decide+kernel
 omega
variable {gv:Gv}
theorem Joy:∀(n:Nat) {x:X} (own:List Bd),WLx x->dp x<=n->tw x<=1000000->∃J,chkF true gv n x own=some J:=by
 have I:∀{a b:Option (Option (Nat×BA))},(∃r,a=some r)->(∃r,b=some r)->∃r,sqF a b=some r:=by
  rintro a b ⟨r,rfl⟩ ⟨q,rfl⟩
  cases r with
  |none=>exact⟨q,rfl⟩
  |some e=>exact⟨some e,rfl⟩
 have U:∀{f:X->Option (Option (Nat×BA))} {l:List X} {r:Option (Option (Nat×BA))},(∀x,x∈l->∃q,f x=some q)->(∃q,r=some q)->∃q,l.foldl (fun r x=>sqF r (f x)) r=some q:=by
  intro f l
  induction l with
  |nil=>intro r _ h;exact h
  |cons x l d=>intro r T h;exact d (fun y q=>T y (by simp[q])) (I h (T x (by simp)))
 intro n
 induction n with
 |zero=>intro x own _ h;obtain⟨op,names,kids,loc⟩:=x;simp only[dp]at h;omega
 |succ n d=>
  intro x own L G ht
  cases L with
  |nam m loc Y=>
   have W:m.size<=1000:=by
    have:=Y.sz;have e:m.data.toList.length=m.size:=by simp
    omega
   show∃J,(match JaJ m gv own with|some _=>some none|none=>if m.size<=1000 then some (some (loc,m))else none)=some J
   cases JaJ m gv own with
   |some s=>exact⟨_,rfl⟩
   |none=>exact⟨some (loc,m),by simp only[Vat W]⟩
  |num m loc _=>exact⟨none,rfl⟩
  |fn m a loc _ D=>
   simp only[dp,dps,tw,tws]at G ht;exact d (⟨m,.int,false⟩::own) D (by omega) (by omega)
  |pair a b loc D E=>
   simp only[dp,dps,tw,tws]at G ht;exact I (d own D (by omega) (by omega)) (d own E (by omega) (by omega))
  |ite a b c loc D E hc=>
   simp only[dp,dps,tw,tws]at G ht;exact I (d own D (by omega) (by omega)) (I (d own E (by omega) (by omega)) (d own hc (by omega) (by omega)))
  |app a b loc D E=>
   simp only[dp,dps,tw,tws]at G ht;exact I (d own D (by omega) (by omega)) (d own E (by omega) (by omega))
  |lt m a b loc _ D E=>
   simp only[dp,dps,tw,tws]at G ht;exact I (d own D (by omega) (by omega)) (d (⟨m,.int,false⟩::own) E (by omega) (by omega))
  |rc names vs y loc hl _ _ _ hv Z=>
   have hn:=JfG names
   have V:∀k,k∈vs++ [y]->dp k<=n/\tw k<=1000000:=fun k hk=>by
    have O:=JjE hk;have M:=Jqc hk;simp only[dp,tw]at G ht;omega
   show∃J,grpC (fun x own=>chkF true gv n x own) names (vs++ [y]) own=some J;unfold grpC;rw[Vat (by simp only[tw]at ht;omega)];refine U (fun x L=> ?_) ⟨none,rfl⟩
   obtain⟨O,M⟩:=V x L
   rcases Vbd.1 L with h|h
   .exact d _ (hv x h) O M
   .rw[Va4]at h;subst h;exact d _ Z O M
def okRf(pre:St):TR->Bool
 | .nd k i=>match pre[i]? with
  |some nd=>k.eqb nd.k.kd
  |none=>false
 |_=>true
def okNd(pre:St)(nd:Nd):Bool:=nd.s.isNone&&match nd.k with
 | .vr _ _=>true
 | .ls x=>okRf pre x
 | .pr x y=>okRf pre x&&okRf pre y
 | .ar x y=>okRf pre x&&okRf pre y
def okSt:St->St->Bool
 |_,[]=>true
 |pre,nd::r=>okNd pre nd&&okSt (pre++ [nd]) r
variable {r:TR}
theorem JdL{pre:St}(h:okRf pre r=true):Vl pre r:=by
 cases r with
 |int=>trivial
 |bool=>trivial
 |nd k i=>
  simp only[okRf]at h
  split at h
  .rename_i nd e;exact⟨nd.k,nd.s,e,(Kd.eqb_iff.1 h).symm⟩
  .cases h
theorem JdM{pre:St}(h:okRf pre r=true)(D:pre.length<=n):zhT n d r=r:=by
 cases r with
 |int=>rfl
 |bool=>rfl
 |nd k i=>
  simp only[okRf]at h
  split at h
  .rename_i nd e;have:=(Vae.1 e).1;simp only[zhT,zhI];rw[Vat (by omega)]
  .cases h
variable {nd:Nd}
theorem Jpy{pre:St}(h:okNd pre nd=true)(D:Gd pre):∃t,Tr (pre++ [nd]) (.nd nd.k.kd pre.length) t:=by
 obtain⟨k,s⟩:=nd;simp only[okNd,Vaz,VcU]at h;obtain⟨rfl,h⟩:=h;have E:=Ja2 pre ⟨k,none⟩
 cases k with
 |vr nm b=>exact⟨_,.vr _ nm b E⟩
 |ls x=>
  obtain⟨a,d⟩:=D x (JdL h);exact⟨_,.ls _ x a E (d.up _)⟩
 |pr x y=>
  simp only[Vaz]at h;obtain⟨a,d⟩:=D x (JdL h.1);obtain⟨b,G⟩:=D y (JdL h.2);exact⟨_,.pr _ x y a b E (d.up _) (G.up _)⟩
 |ar x y=>
  simp only[Vaz]at h;obtain⟨a,d⟩:=D x (JdL h.1);obtain⟨b,G⟩:=D y (JdL h.2);exact⟨_,.ar _ x y a b E (d.up _) (G.up _)⟩
theorem Jpz{pre:St}(h:okNd pre nd=true)(D:pre.length<=n):zhN n d nd=nd:=by
 obtain⟨k,s⟩:=nd;simp only[okNd,Vaz,VcU]at h;obtain⟨rfl,h⟩:=h
 cases k with
 |vr nm b=>rfl
 |ls x=>simp only[zhN,zhK,JdM h D,Vbc]
 |pr x y=>
  simp only[Vaz]at h;simp only[zhN,zhK,JdM h.1 D,JdM h.2 D,Vbc]
 |ar x y=>
  simp only[Vaz]at h;simp only[zhN,zhK,JdM h.1 D,JdM h.2 D,Vbc]
theorem Jkx:∀{r pre:St},okSt pre r=true->Gd pre->Gd (pre++r)
 | [],pre,_,d=>by simpa using d
 |nd::r,pre,h,d=>by
  simp only[okSt,Vaz]at h;obtain⟨t,ht⟩:=Jpy h.1 d;have:=Jkx h.2 (d.snoc ht);simpa using this
theorem Jky{n d:Nat}:∀{r pre:St},okSt pre r=true->pre.length+r.length<=n->∀nd,nd∈r->zhN n d nd=nd
 | [],pre,_,_,nd,h=>by cases h
 |x::r,pre,h,E,nd,D=>by
  simp only[okSt,Vaz]at h;simp only[VaY]at E
  rcases VaW.1 D with rfl|D
  .exact Jpz h.1 (by omega)
  .exact Jky h.2 (by simp only[Vap,VaG];omega) nd D
def gvE:Gv×St:=(gvF envS [] []).getD ([],[])
theorem JoU:(gvF envS [] []).isSome=true:=by kernel_rfl
theorem getD_some{d:Type}{o:Option d}{a:d}(h:o.isSome=true):o=some (o.getD a):=by
 cases o with
 |none=>cases h
 |some b=>rfl
theorem JqV:gvF envS [] []=some gvE:=getD_some JoU
theorem Jgf:(okSt [] gvE.2&&gvE.1.all (fun e=>okRf gvE.2 e.2)&&decide (gvE.2.length<=1000))=true:=by kernel_rfl
theorem JqL:Gd gvE.2:=by
 have h:=Jgf;simp only[Vaz]at h
 have:=Jkx (pre:= []) h.1.1 (fun r d=>by
  cases r with
  |int=>exact⟨_,.int⟩
  |bool=>exact⟨_,.bool⟩
  |nd k i=>obtain⟨nk,s,e,_⟩:=d;simp at e)
 rw[VaK]at this;exact this
theorem JnU:∀nd,nd∈gvE.2->zhN gvE.2.length 3 nd=nd:=by
 have h:=Jgf;simp only[Vaz]at h;exact Jky (pre:= []) h.1.1 (by simp)
theorem JqM:GvV gvE.2 gvE.1:=by
 have h:=Jgf;simp only[Vaz]at h;exact fun e d=>JdL (VdM.1 h.1.2 e d)
theorem JnS:gvE.1.map (zhG gvE.2.length 3)=gvE.1:=by
 have h:=Jgf;simp only[Vaz]at h
 have:∀e,e∈gvE.1->zhG gvE.2.length 3 e=e:=fun e d=>by
  simp only[zhG,JdM (VdM.1 h.1.2 e d) (Vau _)]
 rw[VcP this,List.map_id']
theorem JjH:gvE.2.length<=1000:=by
 have h:=Jgf;simp only[Vaz,Va1]at h;exact h.2
def tyE(n:Nat)(x:X):Option (Oc (TR×St)×Unit):=typF tlN true gvE.1 6 n x [] gvE.2 ()
def ckE(n:Nat)(x:X):Option (Option (Nat×BA)):=chkF true gvE.1 n x []
variable {fuel:Nat}{own:List Bd}{σ:St}{p:TR×St}
theorem JlA(h:typF tlN true gv fuel (n+1) x own σ ()=some (.ok p,())):bigF p.2 p.1=some false:=by
 rw[typF]at h;obtain⟨⟨r,⟨⟩⟩,G,d⟩:=Vab.1 h
 cases r with
 |er j=>simp at d
 |ok q=>
  simp only at d;obtain⟨b,E,D⟩:=Vab.1 d
  cases b with
  |true=>simp at D
  |false=>
   simp only[Vao,VaS,Vaa,Vaf,Oc.ok.injEq,Vbo]at D;subst D;exact E
inductive Out(x:X):IfO->Prop
 |unb (q:Nat×BA):ckE 500 x=some (some q)->Out x (.unb q.1 q.2)
 |sen (j:Nat):ckE 500 x=some none->(j=3\/j=4\/j=5)->tyE 500 x=some (.er j,())->Out x (.sen j)
 |txt (t:TR) (σ:St) (τ:Tt):ckE 500 x=some none->tyE 500 x=some (.ok (t,σ),())->Tr σ t τ->τ.sz<=120->Gd σ->σ.length+1000<=BB->Out x (.txt (canT τ.ty))
theorem Jj9{s:BA}(M:exO s=some x):∃o,Je7 true 6 s envS=some o/\Out x o:=by
 obtain⟨J,V,ht,hs⟩:=JiO M;obtain⟨T,d⟩:=Joy (gv:=gvE.1) 500 [] J (by omega) (by omega);simp only[Je7,M,JqV,Vad,d]
 cases T with
 |some q=>exact⟨_,rfl,.unb q d⟩
 |none=>
  have W:=JqU (x:=x) (by omega) ht;have hl:=JjH;have Y:=Jdx;obtain⟨r,e,L⟩:=Jqh (gv:=gvE.1) (fuel:=6) (by omega) (by omega) 500 J.wx d [] gvE.2 rfl JqL (fun b q=>by cases q) JqM (by omega);simp only at e;rw[e];simp only[Vad]
  cases r with
  |er j=>exact⟨_,rfl,.sen j d L e⟩
  |ok p=>
   obtain⟨Z,E,U,h5⟩:=L;obtain⟨τ,D⟩:=E _ U;have G:=JlA (n:=499) e;have O:p.2.length<fuN:=by omega
   rw[Jee O D]at G
   have I:τ.sz<=120:=by
    have:=of_decide_eq_false (VbN G);omega
   have hh:=τ.ht_sz;simp only[Jnt O 500 D (by omega),Vad,Jf0];rw[Vat I];exact⟨_,rfl,.txt p.1 p.2 τ d e D I E (by omega)⟩
variable {y:X}
theorem JjB(D:WX x)(d:WX y)(h:er x=er y)(n:Nat):ckb (ckE n x)=ckb (ckE n y):=by
 unfold ckE;rw[<-JnN n D,<-JnN n d,h]
theorem Jnw(D:WX x)(d:WX y)(h:er x=er y)(n:Nat):tyE n x=tyE n y:=by
 unfold tyE;rw[<-Jop n D,<-Jop n d,h]
theorem IfO.bad_t(h:o.what≠0):o.t=⟨#[]⟩:=by
 cases o with
 |txt t=>exact absurd rfl h
 |sen j=>rfl
 |unb l n=>rfl
def Alike(o o':IfO):Prop:=(∀t,o= .txt t->o'= .txt t)/\(o.what≠0->o'.what≠0)
variable {j:Nat}
theorem Jix(h:j=3\/j=4\/j=5):(IfO.sen j).what≠0:=by
 rcases h with rfl|rfl|rfl<;>decide
theorem JfI(h:Out x o):o.what=0<->∃t,o= .txt t:=by
 cases h with
 |unb q _=>exact⟨fun h=>absurd h (by show(4:Int)≠0;decide),fun⟨t,h⟩=>by cases h⟩
 |sen j _ d _=>exact⟨fun h=>absurd h (Jix d),fun⟨t,h⟩=>by cases h⟩
 |txt t σ τ _ _ _ _ _ _=>exact⟨fun _=>⟨_,rfl⟩,fun _=>rfl⟩
variable {o':IfO}
theorem JfH(h:Out x o)(J:Out y o')(hc:∀q,ckE 500 x=some (some q)->∃U,ckE 500 y=some (some U))(T:ckE 500 x=some none->ckE 500 y=some none)(he:∀j,tyE 500 x=some (.er j,())->∃O,tyE 500 y=some (.er O,()))
 (ht:∀t σ τ,tyE 500 x=some (.ok (t,σ),())->Tr σ t τ->τ.sz<=120->Gd σ->σ.length+1000<=BB->∃I σ' L,tyE 500 y=some (.ok (I,σ'),())/\Tr σ' I L/\canT L.ty=canT τ.ty):Alike o o':=by
 cases h with
 |unb q E=>
  refine⟨fun t h=>(nomatch h),fun _=> ?_⟩
  obtain⟨U,e⟩:=hc q E
  cases J with
  |unb V d=>show(4:Int)≠0;decide
  |sen j d _ _=>rw[e]at d;simp at d
  |txt t σ τ d _ _ _ _ _=>rw[e]at d;simp at d
 |sen j E hj M=>
  refine⟨fun t h=>(nomatch h),fun _=> ?_⟩
  have e:=T E;obtain⟨O,G⟩:=he j M
  cases J with
  |unb V d=>rw[e]at d;simp at d
  |sen k d hk _=>exact Jix hk
  |txt t σ τ _ d _ _ _ _=>rw[G]at d;simp at d
 |txt t σ τ E d M W Y h6=>
  refine⟨fun a hh=> ?_,fun h=>absurd rfl h⟩
  have e:=T E;obtain⟨I,σ',L,G,r1,r2⟩:=ht t σ τ d M W Y h6
  cases J with
  |unb V D=>rw[e]at D;simp at D
  |sen k _ _ D=>rw[G]at D;simp at D
  |txt t2 σ2 τ2 _ D Z _ _ _=>
   rw[G]at D;simp only[Vaa,Vaf,Oc.ok.injEq,Vbo]at D;obtain⟨rfl,rfl⟩:=D;rw[<-hh,<-r2,r1.det Z]
theorem Jmv(D:WX x)(d:WX y)(e:er y=er x)(h:Out x o)(E:Out y o'):Alike o o':=by
 have hk:=JjB D d e.symm 500;have ht:=Jnw D d e.symm 500;refine JfH h E (fun q G=> ?_) (fun O=>(Jd4 hk).1 O) (fun j I=>⟨j,ht▸I⟩) (fun t σ τ L J _ _ _=>⟨t,σ,τ,ht▸L,J,rfl⟩)
 rw[G]at hk
 cases d:ckE 500 y with
 |none=>rw[d]at hk;simp[ckb]at hk
 |some r=>
  cases r with
  |none=>rw[d]at hk;simp[ckb]at hk
  |some M=>exact⟨M,rfl⟩
def zN:BA:=⟨#[122]⟩
def xZ:X:= .mk ⟨#[110,97,109,101]⟩ [zN] [] 0
def xLet(x:X):X:= .mk ⟨#[108,101,116]⟩ [zN] [x,xZ] 0
def xId:X:= .mk ⟨#[102,117,110]⟩ [zN] [xZ] 0
def xApp(x:X):X:= .mk ⟨#[97,112,112]⟩ [] [xId,x] 0
def xPr(x:X):X:= .mk ⟨#[108,101,116]⟩ [zN] [x,.mk ⟨#[112,97,105,114]⟩ [] [xZ,xZ] 0] 0
theorem Jqo(h:WX x):WX (xLet x):= .lt _ _ _ _ h (.nam _ _)
theorem Jqn(h:WX x):WX (xApp x):= .app _ _ _ (.fn _ _ _ (.nam _ _)) h
theorem JrQ(h:WX x):WX (xPr x):= .lt _ _ _ _ h (.pair _ _ _ (.nam _ _) (.nam _ _))
variable {m:Nat}
theorem Jfu(d:WX x)(D:dp x<=400)(G:400<=n)(E:400<=m):ckE n x=ckE m x:=JlV d (by omega) (by omega) []
theorem JfZ(d:WX x)(D:dp x<=400)(G:400<=n)(E:400<=m):tyE n x=tyE m x:=Jnx d (by omega) (by omega) [] gvE.2
variable {a:Option (Option (Nat×BA))}
theorem JrA:sqF a (some none)=a:=by
 cases a with
 |none=>rfl
 |some r=>cases r<;>rfl
theorem ck_z(n:Nat)(t:TR)(p:Bool):chkF true gvE.1 (n+1) xZ [⟨zN,t,p⟩]=some none:=by
 show(match JaJ zN gvE.1 [⟨zN,t,p⟩]with|some _=>some none|none=>if zN.size<=1000 then some (some (0,zN))else none)=some (none:Option (Nat×BA));have:JaJ zN gvE.1 [⟨zN,t,p⟩]=some t:=by simp only[JaJ,Jft,Va0]
 rw[this]
theorem JqI(D:WX x)(d:dp x<=400):ckE 500 (xLet x)=ckE 500 x:=by
 have e:ckE 500 (xLet x)=sqF (ckE 499 x) (chkF true gvE.1 499 xZ [⟨zN,.int,false⟩]):=rfl;rw[e,ck_z 498,JrA,Jfu D d (n:=499) (m:=500) (by omega) (by omega)]
theorem JqH(D:WX x)(d:dp x<=400):ckE 500 (xApp x)=ckE 500 x:=by
 have e:ckE 500 (xApp x)=sqF (chkF true gvE.1 498 xZ [⟨zN,.int,false⟩]) (ckE 499 x):=rfl;rw[e,ck_z 497,Jfu D d (n:=499) (m:=500) (by omega) (by omega)];rfl
theorem ck_pr(D:WX x)(d:dp x<=400):ckE 500 (xPr x)=ckE 500 x:=by
 have e:ckE 500 (xPr x)=sqF (ckE 499 x) (sqF (chkF true gvE.1 498 xZ [⟨zN,.int,false⟩]) (chkF true gvE.1 498 xZ [⟨zN,.int,false⟩])):=rfl;rw[e,ck_z 497];show sqF (ckE 499 x) (some none)=_;rw[JrA,Jfu D d (n:=499) (m:=500) (by omega) (by omega)]
variable {z:X}{q:Nat×BA}
theorem JjC(E:WX y)(G:WX z)(e:er y=er z)(h:ckE 500 z=some (some q)):∃d,ckE 500 y=some (some d):=by
 have hk:=JjB E G e 500;rw[h]at hk
 cases D:ckE 500 y with
 |none=>rw[D]at hk;simp[ckb]at hk
 |some r=>
  cases r with
  |none=>rw[D]at hk;simp[ckb]at hk
  |some d=>exact⟨d,rfl⟩
theorem JkA(E:WX x)(hd:dp x<=40)(d:WX y)(e:er y=er (xLet x))(h:Out x o)(J:Out y o'):Alike o o':=by
 have D:=Jqo E;have I:=JqI E (by omega);have G:=JfZ E (by omega:dp x<=400) (n:=499) (m:=500) (by omega) (by omega);have ht:=Jnw d D e 500;refine JfH h J (fun q M=>JjC d D e (I.trans M)) (fun hn=>(Jd4 (JjB d D e 500)).2 (I.trans hn)) (fun j T=> ?_) (fun t σ τ W U Y V h5=> ?_)
 .refine⟨j,ht.trans ?_⟩
  exact Jo5 (n:=499) (y:=xZ) (G.trans T)
 .obtain⟨r,σ',ρ,L,Z,O,_⟩:=Jmi (gv:=gvE.1) (fuel:=6) (n:=498) (z:=zN) (l1:=0) (l2:=0) (G.trans W) U Y V (by omega);exact⟨r,σ',_,ht.trans L,Z,JjA O⟩
theorem Jkz(d:WX x)(hd:dp x<=40)(E:WX y)(e:er y=er (xApp x))(h:Out x o)(M:Out y o'):Alike o o':=by
 have D:=Jqn d;have J:=JqH d (by omega);have G:=JfZ d (by omega:dp x<=400) (n:=499) (m:=500) (by omega) (by omega);have ht:=Jnw E D e 500;have hl:=JjH
 have I:gvE.2.length+5<=BB:=by
  have:2000<=BB:=by decide+kernel
  omega
 refine JfH h M (fun q O=>JjC E D e (J.trans O)) (fun W=>(Jd4 (JjB E D e 500)).2 (J.trans W)) (fun j hj=> ?_) (fun t σ τ T L V h4 h5=> ?_)
 .have:=JnH (gv:=gvE.1) (fuel:=6) (n:=497) (z:=zN) (l1:=0) (l2:=0) (l3:=0) JnU JnS d I (G.trans hj);exact⟨j,ht.trans (this.1 j rfl)⟩
 .have:=JnH (gv:=gvE.1) (fuel:=6) (n:=497) (z:=zN) (l1:=0) (l2:=0) (l3:=0) JnU JnS d I (G.trans T);obtain⟨r,σ',ρ,Y,U,Z,_⟩:=this.2 t σ τ rfl L V (by omega);exact⟨r,σ',_,ht.trans Y,U,JjA Z⟩
theorem Jrj{a:BA}(I:WX x)(hd:dp x<=40)(O:WX y)(e:er y=er (xPr x))(h:Out x (.txt a))(L:Out y o'):o'= .sen 4\/∃(τ:Tt) (ρ ρ':Nat->Nat),a=canT τ.ty/\o'= .txt (canT (Tt.p (τ.sub fun i=> .v (ρ i)) (τ.sub fun i=> .v (ρ' i))).ty)/\(∀i j,τ.has i->τ.has j->ρ i=ρ j->i=j)/\(∀i j,τ.has i->τ.has j->ρ' i=ρ' j->i=j)/\(∀i j,τ.has i->τ.has j->ρ i≠ρ' j)/\τ.sz+τ.sz+1<=120:=by
 have M:=JrQ I;have hc:=ck_pr I (by omega);have hf:=JfZ I (by omega:dp x<=400) (n:=499) (m:=500) (by omega) (by omega);have ht:=Jnw O M e 500;generalize E:IfO.txt a=q at h
 cases h with
 |unb q _=>cases E
 |sen j _ _ _=>cases E
 |txt t σ τ h1 W h3 Z h5 h6=>
  simp only[IfO.txt.injEq]at E;have T:=(Jd4 (JjB O M e 500)).2 (hc.trans h1)
  rcases Jmj (gv:=gvE.1) (fuel:=6) (n:=497) (z:=zN) (l1:=0) (l2:=0) (l3:=0) (l4:=0) (hf.trans W) h3 Z h5 (by omega)with D|⟨r,σ',ρ,ρ',D,G,e3,e4,V,_,Y⟩
  .have D:tyE 500 (xPr x)=some (.er 4,()):=D;have G:=ht.trans D
   cases L with
   |unb q2 d=>rw[T]at d;simp at d
   |sen k _ _ d=>
    rw[G]at d;simp only[Vaa,Vaf,Oc.er.injEq,Vbo]at d;rw[<-d];exact .inl rfl
   |txt U σ2 τ2 _ d _ _ _ _=>rw[G]at d;simp at d
  .have D:tyE 500 (xPr x)=some (.ok (r,σ'),()):=D;have J:=ht.trans D
   cases L with
   |unb q2 d=>rw[T]at d;simp at d
   |sen k _ _ d=>rw[J]at d;simp at d
   |txt U σ2 τ2 _ d h8 _ _ _=>
    rw[J]at d;simp only[Vaa,Vaf,Oc.ok.injEq,Vbo]at d;obtain⟨rfl,rfl⟩:=d;refine .inr ⟨τ,ρ,ρ',E,?_,e3,e4,V,Y⟩
    rw[G.det h8]
theorem JdS{A:List Nat}:∀{t:Tt} {l:List Nat},(∀v,t.has v->v∉A)->t.vsl (A++l)=A++t.vsl l
 | .int,l,_=>rfl
 | .bool,l,_=>rfl
 | .v i,l,h=>by
  have E:=h i rfl;simp only[Tt.vsl]
  by_cases D:i∈l
  .rw[Vat (VaX.2 (by simp[D])),Vat (VaX.2 D)]
  .rw[Vaq (fun z=>by
    rcases Vbd.1 (VaX.1 z)with z|z
    .exact E z
    .exact D z),Vaq (fun z=>D (VaX.1 z)),Val]
 | .l c,l,h=>JdS (t:=c) h
 | .p c d,l,h=>by
  simp only[Tt.vsl];rw[JdS (t:=c) fun v q=>h v (.inl q),JdS (t:=d) fun v q=>h v (.inr q)]
 | .f c d,l,h=>by
  simp only[Tt.vsl];rw[JdS (t:=c) fun v q=>h v (.inl q),JdS (t:=d) fun v q=>h v (.inr q)]
variable {τ:Tt}{ρ ρ':Nat->Nat}
theorem Jmw(O:∀i j,τ.has i->τ.has j->ρ i=ρ j->i=j)(L:∀i j,τ.has i->τ.has j->ρ' i=ρ' j->i=j)(W:∀i j,τ.has i->τ.has j->ρ i≠ρ' j):
  ∃a b:Ty,∃k,FO a 0 k/\FO b k (k+k)/\sz a=τ.sz/\sz b=τ.sz/\canT τ.ty=Ide (lets k) a/\canT (Tt.p (τ.sub fun i=> .v (ρ i)) (τ.sub fun i=> .v (ρ' i))).ty=Ide (lets (k+k)) (.mk ⟨#[112,97,105,114]⟩ 0 [a,b])/\Ide (lets (k+k)) b=Ide ((lets (k+k)).drop k) a:=by
 have e1:(τ.sub fun i=> .v (ρ i)).vsl []=(τ.vsl []).map ρ:=JcK (l:= []) fun i j a b=>O i j (a.resolve_left (by simp)) (b.resolve_left (by simp))
 have e2:(τ.sub fun i=> .v (ρ' i)).vsl []=(τ.vsl []).map ρ':=JcK (l:= []) fun i j a b=>L i j (a.resolve_left (by simp)) (b.resolve_left (by simp))
 have D:∀v,v∈τ.vsl []->τ.has v:=fun v h=>(Jbx h).resolve_left (by simp)
 have Y:(Tt.p (τ.sub fun i=> .v (ρ i)) (τ.sub fun i=> .v (ρ' i))).vsl []=(τ.vsl []).map ρ++(τ.vsl []).map ρ':=by
  simp only[Tt.vsl];rw[e1]
  have:=JdS (A:=(τ.vsl []).map ρ) (t:=τ.sub fun i=> .v (ρ' i)) (l:= []) (fun v E d=>by
   obtain⟨i,hi,rfl⟩:=Jc5 E;obtain⟨j,G,e⟩:=Vbj.1 d;exact W j i (D j G) hi e)
  rw[Vb6]at this;rw[this,e2]
 have hk:((τ.vsl []).map ρ).length=(τ.vsl []).length:=by simp
 have n1:(τ.sub fun i=> .v (ρ i)).num ((τ.vsl []).map ρ++(τ.vsl []).map ρ')=τ.num (τ.vsl []):=by
  unfold Tt.num;rw[Tt.sub_sub];refine Tt.sub_ext fun v E=> ?_
  have d:v∈τ.vsl []:=Jcm E;simp only[Tt.sub];rw[VcZ,Vat (VcO d),Jia d fun i j a b=>O i j (D i a) (D j b)]
 have n2:(τ.sub fun i=> .v (ρ' i)).num ((τ.vsl []).map ρ++(τ.vsl []).map ρ')=(τ.num (τ.vsl [])).sub fun i=> .v (i+(τ.vsl []).length):=by
  unfold Tt.num;rw[Tt.sub_sub,Tt.sub_sub];refine Tt.sub_ext fun v E=> ?_
  have d:v∈τ.vsl []:=Jcm E
  have hn:ρ' v∉(τ.vsl []).map ρ:=fun z=>by
   obtain⟨j,G,e⟩:=Vbj.1 z;exact W j v (D j G) E e
  simp only[Tt.sub];rw[VcZ,Vaq hn,Jia d fun i j a b=>L i j (D i a) (D j b),hk]
 have J:=JdX τ [] [];rw[Vb6,Vbp]at J;have I:=JdX (Tt.p (τ.sub fun i=> .v (ρ i)) (τ.sub fun i=> .v (ρ' i))) [] [];have V:((τ.vsl []).map ρ++(τ.vsl []).map ρ').length=(τ.vsl []).length+(τ.vsl []).length:=by simp
 rw[Vb6,Vbp,Y,V]at I
 have T:(Tt.p (τ.sub fun i=> .v (ρ i)) (τ.sub fun i=> .v (ρ' i))).num ((τ.vsl []).map ρ++(τ.vsl []).map ρ')= .p (τ.num (τ.vsl [])) ((τ.num (τ.vsl [])).sub fun i=> .v (i+(τ.vsl []).length)):=by
  have e:∀(A B:Tt) (l:List Nat),(Tt.p A B).num l= .p (A.num l) (B.num l):=fun _ _ _=>rfl
  rw[e,n1,n2]
 have Z:=Jeg (Tt.p (τ.sub fun i=> .v (ρ i)) (τ.sub fun i=> .v (ρ' i)));rw[Y,T,V]at Z;rw[T]at I;have U:(τ.num (τ.vsl [])).sz=τ.sz:=Tt.sub_sz (fun i=>⟨_,rfl⟩) τ;refine⟨(τ.num (τ.vsl [])).ty,((τ.num (τ.vsl [])).sub fun i=> .v (i+(τ.vsl []).length)).ty,(τ.vsl []).length,J,?_,by rw[Jf0,U],by rw[Jf0,Tt.ren_sz,U],Jeg τ,Z,?_⟩
 .have aa:(Tt.p (τ.num (τ.vsl [])) ((τ.num (τ.vsl [])).sub fun i=> .v (i+(τ.vsl []).length))).ty= .mk ⟨#[112,97,105,114]⟩ 0 [(τ.num (τ.vsl [])).ty,((τ.num (τ.vsl [])).sub fun i=> .v (i+(τ.vsl []).length)).ty]:=rfl;rw[aa]at I
  cases I with
  |pair a b m j k ha M=>
   have G:j=(τ.vsl []).length:=by
    have:=VbH List.length (ha.vars.symm.trans J.vars);simpa using this
   rw[G]at M;exact M
 .refine JeK ((lets ((τ.vsl []).length+(τ.vsl []).length)).drop (τ.vsl []).length) (lets ((τ.vsl []).length+(τ.vsl []).length)) (ρ:=fun i=>i+(τ.vsl []).length) fun v _=> ?_
  simp only[List.getD,List.getElem?_drop];rw[Nat.add_comm v]
variable {V:World}{fb:Nat}
theorem Kept.put1(h:Kept w V)(D:w.heap.size<=fb)(j:Nat)(v:Value):Kept w (V.setCell ⟨fb,j,none⟩ v):=⟨h.os,h.output,by simpa using h.size,fun q d=>(Vaj _ _ _ q (by intro z;simp at z;omega)).trans (h.block q d)⟩
def JjP(what loc:Int)(s:BA)(i j:Int):Value:= .agg #[.int .i64 what,.int .i64 loc,.string s,.int .i64 i,.int .i64 j]
def HiE(w:World)(kv:List (BA×BA))(s:BA)(fl:Int)(t:BA)(fv:Value):Prop:=∀W em,Kept w W->SM W em kv->Calls prog 54 #[.string s,.map (some em),.int .i64 fl] W fun e w'=>Kept W w'/\∃er,e= .returned (.tuple #[.string t,er])/\(er= .nilIface\/∃T u,er= .iface T u)/\∀d,Kept w' d->Calls prog 37 #[er] d fun e D=>e= .returned fv/\Kept d D
variable {kv:List (BA×BA)}{fl:Int}{fv:Value}
theorem Jn2{s:BA}(h:∀W em,Kept w W->SM W em kv->Calls prog 93 #[.agg #[.int .i64 fl,.nilFunc],.string s,.map (some em)] W fun e w'=>∃T z,e= .returned (.tuple #[.nilIface,.iface T z])/\Kept W w'/\∀d,Kept w' d->Calls prog 37 #[.iface T z] d fun e D=>e= .returned fv/\Kept d D):HiE w kv s fl ⟨#[]⟩ fv:=by
 intro W em hk I;refine(Jde s em fl W (fun v w'=>∃T z,v= .tuple #[.string ⟨#[]⟩,.iface T z]/\Kept W w'/\∀d,Kept w' d->Calls prog 37 #[.iface T z] d fun e D=>e= .returned fv/\Kept d D) ((JeV s em fl W (fun T z w'=>Kept W w'/\∀d,Kept w' d->Calls prog 37 #[.iface T z] d fun e D=>e= .returned fv/\Kept d D) ((h W em hk I).mono (fun e w' ⟨T,z,G,hk,E⟩=>⟨T,z,G,hk,E⟩))).mono ?_)).mono ?_
 .rintro e w' ⟨T,z,rfl,J⟩;exact⟨_,_,rfl,T,z,rfl,J.out⟩
 .rintro e w' ⟨v,rfl,T,z,rfl,hk,E⟩;exact⟨hk,_,rfl,.inr ⟨_,_,rfl⟩,E⟩
end Go.Proofs.YtleenphlgbklmaaGreatDoor
