import Derived.Test.YtleenphlgbklmaaGreatDoorACTxV
set_option linter.unusedVariables false
set_option linter.unusedSimpArgs false
set_option maxRecDepth 100000
set_option maxHeartbeats 8000000
namespace Go.Proofs.YtleenphlgbklmaaGreatDoor
open Go.RowKit
open World renaming cell? → Vet
open Lib renaming IsBuilderF → Veu, byteCells → Vev, byteCells_length → Vew, strCells_eq → Vex, byteCells_append → Vey
open Tryz
theorem JhJ(d:List Sp)(k:Nat)(s:Sp)(h:d[k]? =some s)(j:Nat)(G:j<3):(Jbc d)[k*3+j]? =s.cells[j]? :=by
 induction d generalizing k with
 |nil=>simp at h
 |cons a l D=>
  have E:a.cells.length=3:=by cases a<;>rfl
  cases k with
  |zero=>
   simp at h;subst h;simp only[Jbc];rw[Vak (by omega)];simp
  |succ k=>
   simp at h;simp only[Jbc];rw[VaU (by omega)];rw[show(k+1)*3+j-a.cells.length=k*3+j by omega];exact D k h
theorem JeY(d:List Sp)(k:Nat)(s:Sp)(h:d[k]? =some s):decS (d.take (k+1))=s.put (decS (d.take k)):=by
 have D:=(Vae.1 h).1;have e:=Va9 D
 have E:d[k]=s:=by
  have:=Vav D;rw[this]at h;simpa using h
 rw[e,Jb0,E]
theorem Jek(d:List Sp)(q:Nat):(decS (d.take q)).size<=(decS d).size:=by
 have h:∀(l:List Sp) (a:BA),a.size<=(l.foldl Sp.put a).size:=by
  intro l
  induction l with
  |nil=>intro a;exact Vau _
  |cons x l D=>
   intro a;refine Vas ?_ (D _)
   cases x<;>simp[Sp.put]
 have e:decS d=(d.drop q).foldl Sp.put (decS (d.take q)):=by
  unfold decS;rw[<-List.foldl_append,Vdh]
 rw[e];exact h _ _
variable {w:World}{B b pm:Nat}{fv:Value}
theorem JhR{h:List Sp}(aa:TL w B b pm fv h):
  Calls prog 112 #[.pointer (some ⟨b,0,none⟩)] w fun e w'=>e= .returned (.string (decS h))/\Below w.heap.size w w':=by
 obtain⟨sv,hb,O,_,_⟩:=aa.cs;have ag:=aa.lt
 obtain⟨W,cap,rfl⟩:∃W cap,sv= .slice W h.length cap:=by
  rcases O.2 with⟨rfl,q⟩|⟨g,cap,aG,rfl,_⟩
  .exact⟨none,0,by rw[q]⟩
  .exact⟨_,_,rfl⟩
 have c1:w.cell? ⟨b,1,none⟩=some (.slice W h.length cap):=by simp[Vet,hb]
 have c2:w.cell? ⟨b,2,none⟩=some (.int .i64 (decS h).size):=by simp[Vet,hb]
 have az:=Vah hb;have HG:Hid _:=fgrow w.heap.size w.heap.size (decS h).size (w.alloc (.cells #[.pointer none,.slice none 0 0] 185)) (Vau _) (Vag _ _) (by simp) (by omega);have HO:Hid _:=O;have HB:Hid _:=aa;clear aa O
 go_enter func112,ntmps112
 go_wp2_with fail
 refine Vac HG.out ?_
 rintro e w1 ⟨rfl,an,av⟩;have al:Below w.heap.size w w1:=((Vbh _ w).alloc (Vau _) _).trans av;have ay:w1.cell? ⟨b,1,none⟩=some (.slice W h.length cap):=(VaH (al.block b az)).trans c1
 have hI:Veu 185 5 w.heap.size w.heap.size (Vev (decS (h.take 0)).data.toList) w1:=by
  have:Vev (decS (h.take 0)).data.toList= []:=by simp[decS,Vev]
  rw[this];exact .inr (Lib.BuilderAtF.of an)
 have HI:Hid _:=hI;clear HG av an hI;have ae:Hid _:=HB.out.good
 obtain⟨g,aq⟩:∃g,∀(q:Nat) (x:Sp),h[q]? =some x->W=some ⟨g,0,none⟩/\g<w.heap.size/\∀(j:Nat) (u:Value),x.cells[j]? =some u->j<3->w.cell? ⟨g,q*3+j,none⟩=some u:=by
  have O:=HO.out
  rcases O.2 with⟨e1,e2⟩|⟨g,aI,aG,e1,_,hg,_⟩
  .refine⟨0,fun q x M=> ?_⟩
   have:=(Vae.1 M).1;omega
  .simp only[VdC]at e1;refine⟨g,fun q x M=>⟨e1.1,Vah hg,fun j u hu hj=> ?_⟩⟩
   have h1:=VcL O (g:=g) (by rw[e1.1];rfl) (q*3+j) u (by rw[JhJ h q x M j hj];exact hu);have e3:((⟨g,0,none⟩:Addr).add (q*3+j))=⟨g,q*3+j,none⟩:=by unfold Addr.add;split<;>simp_all
   rw[e3]at h1;exact h1
 have Y:Hid _:=aq;clear aq HO HB
 go_wp2
 go_loopw [16] (fun i wr=>∃q:Nat,q<=h.length/\i= .int .i64 q/\Veu 185 5 w.heap.size w.heap.size (Vev (decS (h.take q)).data.toList) wr/\Below w.heap.size w wr) (fun i _=>h.length-(intOf i).toNat)
 case atStart=>exact⟨0,VaN _,rfl,HI.out,al⟩
 case round=>
  obtain⟨q,hq,rfl,L,G⟩:=hrel;clear HI al ay
  by_cases aH:q<h.length
  .obtain⟨x,M⟩:∃x,h[q]? =some x:=⟨h[q],by simp[aH]⟩
   obtain⟨rfl,aD,af⟩:=Y.out q x M;have aj:=ae.out q x M;have E:=JeY h q x M;have I:∀(j:Nat) (u:Value),x.cells[j]? =some u->j<3->wr.cell? ⟨g,q*3+j,none⟩=some u:=fun j u hu hj=>(VaH (G.block g aD)).trans (af j u hu hj)
   have aK:(decS (h.take q)).size<=2147483647:=Vas (Jek h q) ag.1;have aM:=Vas (Vau _) G.size
   cases x with
   |tk t=>
    have k0:wr.cell? ⟨g,q*3,none⟩=some (.string t):=I 0 _ rfl (by decide);have k1:wr.cell? ⟨g,q*3+1,none⟩=some (.int .i64 0):=I 1 _ rfl (by decide);have k2:wr.cell? ⟨g,q*3+2,none⟩=some (.int .i64 0):=I 2 _ rfl (by decide)
    have aN:t.toList.isEmpty=false:=by
     rw[VaL];have:0<t.size:=aj;have e:t.data.toList.length=t.size:=by rw[Vbx];rfl
     cases hd:t.data.toList with
     |nil=>rw[hd]at e;simp at e;omega
     |cons a l=>rfl
    have ak:(decS (h.take (q+1))).size<=2147483647:=Vas (Jek h (q+1)) ag.1;have E:decS (h.take (q+1))=decS (h.take q)++t:=E;rw[E,Var]at ak;have U:Hid _:=JnZ w.heap.size w.heap.size _ t (wr.alloc (.cells #[.string t,.int .i64 0,.int .i64 0] 308)) (JhV L _) (by rw[Vew,<-Lib.size_eq];omega) (by simp;omega);have ac:Below w.heap.size w (wr.alloc (.cells #[.string t,.int .i64 0,.int .i64 0] 308)):=G.alloc G.size _;have HD:Hid _:=E;clear I af Y ae L E
    go_wp2_with fail
    refine Vac U.out ?_
    rintro e w3 ⟨rfl,T,ah⟩
    have hF:Veu 185 5 w.heap.size w.heap.size (Vev (decS (h.take (q+1))).data.toList) w3:=by
     have e:Vev (decS (h.take (q+1))).data.toList=Vev (decS (h.take q)).data.toList++Lib.strCells t:=by
      rw[HD.out,Vex,<-Vey];simp
     rw[e];exact .inr T
    clear U T
    go_wp2
    exact⟨⟨q+1,by omega,by go_num,hF,ac.trans ah⟩,by simp[intOf];omega⟩
   |cp f u=>
    have k0:wr.cell? ⟨g,q*3,none⟩=some (.string ⟨#[]⟩):=I 0 _ rfl (by decide);have k1:wr.cell? ⟨g,q*3+1,none⟩=some (.int .i64 f):=I 1 _ rfl (by decide);have k2:wr.cell? ⟨g,q*3+2,none⟩=some (.int .i64 u):=I 2 _ rfl (by decide);have aJ:f<=u/\u<=(decS (h.take q)).size:=aj;have ak:(decS (h.take (q+1))).size<=2147483647:=Vas (Jek h (q+1)) ag.1;have E:decS (h.take (q+1))=decS (h.take q)++(decS (h.take q)).extract f u:=E;rw[E,Var]at ak;have HS:Hid _:=JjY w.heap.size w.heap.size _ (wr.alloc (.cells #[.string ⟨#[]⟩,.int .i64 f,.int .i64 u] 308)).drew (JhV L _) (by simp;omega);have ac:Below w.heap.size w (wr.alloc (.cells #[.string ⟨#[]⟩,.int .i64 f,.int .i64 u] 308)).drew:=(G.alloc G.size _).drew;have am:(wr.alloc (.cells #[.string ⟨#[]⟩,.int .i64 f,.int .i64 u] 308)).drew.heap[wr.heap.size]? =some (.cells #[.string ⟨#[]⟩,.int .i64 f,.int .i64 u] 308 (0,0)):=Vag _ _
    have aF:wr.heap.size≠w.heap.size:=fun z=>by
     rcases L with⟨_,v,ai,_⟩|⟨_,v,ai,_⟩
     .have:=Vah ai;omega
     .have:=Vah ai;omega
    have HO:Hid (∀D:World,Lib.OthersKept 5 (some w.heap.size) (wr.alloc (.cells #[.string ⟨#[]⟩,.int .i64 f,.int .i64 u] 308)).drew D->D.heap[wr.heap.size]? =some (.cells #[.string ⟨#[]⟩,.int .i64 f,.int .i64 u] 308 (0,0))):=fun D h2=>h2 _ _ am (fun z=>aF (by simpa using z)) (fun c fz z=>by cases z)
    have HD:Hid _:=E;clear I af Y ae L E am aj;generalize decS (h.take q)=d at*
    go_wp2_with fail
    go_region_with (go_at_call 101;refine Vac HS.out ?_;rintro e D ⟨rfl,ax,Z,au⟩;have J:=HO.out D au;have m0:D.cell? ⟨wr.heap.size,0,none⟩=some (.string ⟨#[]⟩):=(by simp[Vet,J]);have m1:D.cell? ⟨wr.heap.size,1,none⟩=some (.int .i64 f):=(by simp[Vet,J]);have m2:D.cell? ⟨wr.heap.size,2,none⟩=some (.int .i64 u):=(by simp[Vet,J]);have mf:D.frozen? ⟨wr.heap.size,0,none⟩=false:=(by simp[World.frozen?,J]))
    all_goals
     have aw:Veu 185 5 w.heap.size w.heap.size (Vev d.data.toList) (D.setCell ⟨wr.heap.size,0,none⟩ (.string (d.extract f u))):=Jjv (c:=wr.heap.size) ax (fun k o V hn=>(Vaj _ _ _ _ hn).trans V) (fun cs e fz V=>by rw[J]at V;simp only[Vaa,VaT]at V;obtain⟨_,rfl,_⟩:=V;decide);have aB:w.heap.size<=(D.setCell ⟨wr.heap.size,0,none⟩ (.string (d.extract f u))).heap.size:=by simp;exact(ac.trans Z).size
     have U:Hid _:=JnZ w.heap.size w.heap.size _ (d.extract f u) (D.setCell ⟨wr.heap.size,0,none⟩ (.string (d.extract f u))) aw (by rw[Vew,<-Lib.size_eq];omega) aB;have aE:Below w.heap.size w (D.setCell ⟨wr.heap.size,0,none⟩ (.string (d.extract f u))):=(ac.trans Z).setCell (p:=⟨wr.heap.size,0,none⟩) G.size _
     have aL:(D.setCell ⟨wr.heap.size,0,none⟩ (.string (d.extract f u))).cell? ⟨wr.heap.size,0,none⟩=some (.string (d.extract f u)):=by
      simp[Vet,World.setCell,J,Vay]
     clear ax aw J m0 m1 m2 mf au;have aC:D.setCell ⟨wr.heap.size,0,none⟩ (.string (({data:=d.data}:BA).extract f u))=D.setCell ⟨wr.heap.size,0,none⟩ (.string (d.extract f u)):=rfl;rw[aC];generalize D.setCell ⟨wr.heap.size,0,none⟩ (.string (d.extract f u))=w5 at*
     go_wp2_with fail
     refine Vac U.out ?_
     rintro e w3 ⟨rfl,T,ah⟩
     have hF:Veu 185 5 w.heap.size w.heap.size (Vev (decS (h.take (q+1))).data.toList) w3:=by
      have e:Vev (decS (h.take (q+1))).data.toList=Vev d.data.toList++Lib.strCells (d.extract f u):=by
       rw[HD.out,Vex,<-Vey];simp
      rw[e];exact .inr T
     clear U T
     go_wp2
     exact⟨⟨q+1,by omega,by go_num,hF,aE.trans ah⟩,by simp[intOf];omega⟩
  .have aA:q=h.length:=by omega
   subst aA;have HS:Hid _:=JjY w.heap.size w.heap.size _ wr L G.size;rw[VbA]at HS;clear L Y ae
   go_wp2_with fail
   refine Vac HS.out ?_
   rintro e D ⟨rfl,_,Z,_⟩
   go_wp2
   go_ret
   exact⟨rfl,G.trans Z⟩
end Go.Proofs.YtleenphlgbklmaaGreatDoor
