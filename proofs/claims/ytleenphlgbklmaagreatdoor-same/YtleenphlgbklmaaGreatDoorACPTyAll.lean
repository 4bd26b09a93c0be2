import Derived.Test.YtleenphlgbklmaaGreatDoorACPMatD
import Derived.Test.YtleenphlgbklmaaGreatDoorACPMatE
import Derived.Defers
import Derived.Recover
import Derived.Test.YtleenphlgbklmaaGreatDoorACPTyC
set_option linter.unusedVariables false
set_option linter.unusedSimpArgs false
set_option maxRecDepth 100000
set_option maxHeartbeats 8000000
namespace Go.Proofs.YtleenphlgbklmaaGreatDoor
open Go.RowKit
open Tryz
theorem Jgz(w:World)(h:Nat)(kd:BA)(x:Value)(r:Bool)(D:∃T z,x= .iface T z)(d:∀w',(Op.equal 156 (.iface 343 (.agg #[.string kd])) x).run prog w'= .ok r w'):
  Calls prog 86 #[.map (some h),.iface 343 (.agg #[.string kd]),x] w fun e w'=>e= .returned (.bool r)/\Kept w w':=by
 obtain⟨T,z,rfl⟩:=D;have I:=IbQ (.agg #[.string kd]) w;have E:=IbO (.agg #[.string kd]) w;have G:=IbP (.agg #[.string kd]) w;have J:=IbM (.agg #[.string kd]) w
 have L:(binOp BinOp.eql 156 (.iface 343 (.agg #[.string kd])) (.iface T z)).run prog w= .ok (.bool r) w:=by
  have d:=d w;simp[binOp,d,Result.andThen]
 clear d
 go_enter Vcd,Vb2
 go_wp2
 go_ret
 exact⟨rfl,Kept.refl w⟩
theorem Jkp(names own:List BA)(kd:BA)(d:kd=⟨#[105,110,116]⟩\/kd=⟨#[98,111,111,108]⟩):SMt names own (.mk kd 0 []):=by
 intro w G vg vs kv E lo hi Y aa u v x h O M ac
 have U:v= .iface 343 (.agg #[.string kd]):=by
  rcases d with rfl|rfl
  .cases O with
   |base _ _ _ _ _=>rfl
  .cases O with
   |base _ _ _ _ _=>rfl
 subst U;have I:(kd.data.toList== [])=false:=by rcases d with rfl|rfl<;>decide
 have D:∀r:Bool,(matM (.mk kd 0 []) u E)=(E,r)->(∀w',(Op.equal 156 (.iface 343 (.agg #[.string kd])) x).run prog w'= .ok r w')->Calls prog 86 #[.map (some G),.iface 343 (.agg #[.string kd]),x] w fun e w'=>∃L,e= .returned (.bool (matM (.mk kd 0 []) u E).2)/\SM w' G L/\((matM (.mk kd 0 []) u E).2=true->MG names own L (matM (.mk kd 0 []) u E).1)/\Kq (·=G) w w':=by
  intro r W V;rw[W];refine(Jgz w G kd x r M.iface V).mono ?_
  rintro e w' ⟨rfl,d⟩;exact⟨kv,rfl,⟨d.blk h.sm.mp,h.sm.nd⟩,fun _=>h.mg,Kq.of_kept d⟩
 cases M with
 |var n c _ _ _ J=>exact D false (Jae _ _ _ _ _ _ _ I (by rcases d with rfl|rfl<;>decide)) (fun w'=>Jfx _ _ (by decide) _ _ w')
 |list _ c _ _ _ _ J _ _ _=>exact D false (Jae _ _ _ _ _ _ _ I (by rcases d with rfl|rfl<;>decide)) (fun w'=>Jfx _ _ (by decide) _ _ w')
 |pair _ _ c _ _ _ _ _ _ J _ _ _ _=>exact D false (Jae _ _ _ _ _ _ _ I (by rcases d with rfl|rfl<;>decide)) (fun w'=>Jfx _ _ (by decide) _ _ w')
 |fn _ _ c _ _ _ _ _ _ J _ _ _ _=>exact D false (Jae _ _ _ _ _ _ _ I (by rcases d with rfl|rfl<;>decide)) (fun w'=>Jfx _ _ (by decide) _ _ w')
 |base Z _ _ _ T=>
  rcases d with rfl|rfl<;>rcases T with rfl|rfl
  .exact D true (by simp[matM,JdK]) Iao
  .exact D false (Jae _ _ _ _ _ _ _ (by decide) (by decide)) Ian
  .exact D false (Jae _ _ _ _ _ _ _ (by decide) (by decide)) Iam
  .exact D true (by simp[matM,JdK]) Ial
theorem Jps(names own:List BA)(a d:Ty)(ih:SMt names own a)(ao:SMt names own d):SMt names own (.mk ⟨#[112,97,105,114]⟩ 0 [a,d]):=by
 intro w E vg vs kv G lo hi aw ax u v x h hv hx am;have aa:=h.sm.mp
 have ac:∀(k':BA) (n':Nat) (l':List Ty),u= .mk k' n' l'->((⟨#[112,97,105,114]⟩:BA).data.toList==k'.data.toList)=false->(Instr.typeAssert x 156 226 true).run prog w= .ok (.tuple #[.pointer none,.bool false]) w->Calls prog 86 #[.map (some E),v,x] w fun e w'=>∃D,e= .returned (.bool (matM (.mk ⟨#[112,97,105,114]⟩ 0 [a,d]) u G).2)/\SM w' E D/\((matM (.mk ⟨#[112,97,105,114]⟩ 0 [a,d]) u G).2=true->MG names own D (matM (.mk ⟨#[112,97,105,114]⟩ 0 [a,d]) u G).1)/\Kq (·=E) w w':=by
  rintro k' n' l' rfl hk au;rw[Jae _ _ _ _ _ _ _ (by decide) hk]
  cases hv with
  |pair _ _ b p q _ m k _ hb ha hd h1 h2=>
   refine(JiW w E b x hx.iface au).mono ?_
   rintro e w' ⟨rfl,hk⟩;exact⟨kv,rfl,⟨hk.blk h.sm.mp,h.sm.nd⟩,fun z=>by simp at z,Kq.of_kept hk⟩
 cases hx with
 |var n c _ _ _ Z=>exact ac _ _ _ rfl (by decide) (Ib5 _ w)
 |base kd _ _ _ hk=>exact ac _ _ _ rfl (by rcases hk with rfl|rfl<;>decide) (IbP _ w)
 |list _ c _ _ _ _ Z _ _ _=>exact ac _ _ _ rfl (by decide) (IbU _ w)
 |fn _ _ c _ _ _ _ _ _ Z _ _ _ _=>exact ac _ _ _ rfl (by decide) (IbK _ w)
 |pair y t c q1 q2 _ m2 k2 _ Z hy ht h3 h4=>
  cases hv with
  |pair _ _ b p1 p2 _ m k _ hb ha hd h1 h2=>
   have ag:sz y<=120/\sz t<=120:=by simp only[sz,szs]at am;omega
   obtain⟨M,U,rfl⟩:=ha.iface;obtain⟨T2,Y,rfl⟩:=hd.iface;obtain⟨T,V,rfl⟩:=hy.iface;obtain⟨T4,W,rfl⟩:=ht.iface;have ae:Kept w w.drew:=(Kept.refl w).drw;have hM:=Jdk ⟨#[112,97,105,114]⟩ (by decide) a d y t G
   have cells:∀w',Kq (·=E) w w'->w'.cell? ⟨b,1,none⟩=some (.iface M U)/\w'.cell? ⟨b,2,none⟩=some (.iface T2 Y)/\w'.cell? ⟨c,1,none⟩=some (.iface T V)/\w'.cell? ⟨c,2,none⟩=some (.iface T4 W):=fun w' J=>by
    have av:=(J.block b (Vah hb) (fun z=>by rw[show b=E from z,aa]at hb;cases hb)).trans hb;have al:=(J.block c (Vah Z) (fun z=>by rw[show c=E from z,aa]at Z;cases Z)).trans Z;simp[World.cell?,av,al]
   obtain⟨ai,ah,af,aj⟩:=cells w (Kq.of_kept (Kept.refl w));have H1:=ih w.drew E vg vs kv G _ _ _ _ y _ _ ⟨⟨h.ng.1,h.ng.2⟩,⟨h.ns.1,h.ns.2⟩,h.nd,⟨h.sm.mp,h.sm.nd⟩,h.mg⟩ (ha.keep (PKeep.kept ae)) (hy.keep (PKeep.kept ae)) ag.1
   cases hB:(matM a y G).2 with
   |false=>
    rw[hM,hB];rw[hB]at H1
    have HM:Hid (Calls prog 86 #[.map (some E),.iface M U,.iface T V] w.drew fun e w'=>e= .returned (.bool false)/\Hid (∃D,SM w' E D/\Kq (·=E) w w')/\w'.cell? ⟨b,1,none⟩=some (.iface M U)/\w'.cell? ⟨b,2,none⟩=some (.iface T2 Y)/\w'.cell? ⟨c,1,none⟩=some (.iface T V)/\w'.cell? ⟨c,2,none⟩=some (.iface T4 W)):=by
     refine H1.mono ?_
     rintro e w' ⟨D,rfl,L,O,I⟩;have J:=(Kq.of_kept ae).trans I;exact⟨rfl,⟨D,L,J⟩,cells w' J⟩
    refine(JiV w E b c M T2 T T4 U Y V W _ ai ah af aj HM).mono ?_
    rintro e w' ⟨rfl,hR⟩;obtain⟨D,L,O⟩:=hR.out;exact⟨D,rfl,L,fun z=>by simp at z,O⟩
   |true=>
    rw[hM,hB];simp only[Va0];rw[hB]at H1
    have HM:Hid (Calls prog 86 #[.map (some E),.iface M U,.iface T V] w.drew fun e w'=>e= .returned (.bool true)/\Hid (∃D,SM w' E D/\MG names own D (matM a y G).1/\Kq (·=E) w w')/\w'.cell? ⟨b,1,none⟩=some (.iface M U)/\w'.cell? ⟨b,2,none⟩=some (.iface T2 Y)/\w'.cell? ⟨c,1,none⟩=some (.iface T V)/\w'.cell? ⟨c,2,none⟩=some (.iface T4 W)):=by
     refine H1.mono ?_
     rintro e w' ⟨D,rfl,L,O,I⟩;have J:=(Kq.of_kept ae).trans I;exact⟨rfl,⟨D,L,O rfl,J⟩,cells w' J⟩
    have ak:Hid (∀w1,Hid (∃D,SM w1 E D/\MG names own D (matM a y G).1/\Kq (·=E) w w1)->Calls prog 86 #[.map (some E),.iface T2 Y,.iface T4 W] w1 fun e w'=>∃r,e= .returned (.bool r)/\Hid (∃D,r=(matM d t (matM a y G).1).2/\SM w' E D/\((matM d t (matM a y G).1).2=true->MG names own D (matM d t (matM a y G).1).1)/\Kq (·=E) w w')/\w'.cell? ⟨b,1,none⟩=some (.iface M U)/\w'.cell? ⟨b,2,none⟩=some (.iface T2 Y)/\w'.cell? ⟨c,1,none⟩=some (.iface T V)/\w'.cell? ⟨c,2,none⟩=some (.iface T4 W)):=by
     intro w1 hR;obtain⟨D,L,O,I⟩:=hR.out;refine(ao w1 E vg vs D _ _ _ _ _ t _ _ ⟨h.ng.kq I aa,h.ns.kq I aa,h.nd,L,O⟩ (hd.kq I aa) (ht.kq I aa) ag.2).mono ?_
     rintro e w' ⟨aq,rfl,f1,f2,f3⟩;have J:=I.trans f3;exact⟨_,rfl,⟨aq,rfl,f1,f2,J⟩,cells w' J⟩
    refine(JiX w E b c M T2 T T4 U Y V W _ _ ai ah af aj HM ak).mono ?_
    rintro e w' ⟨r,rfl,hR⟩;obtain⟨D,e1,L,O,I⟩:=hR.out;subst e1
    cases an:(matM d t (matM a y G).1).2 with
    |false=>exact⟨D,rfl,L,fun z=>by simp at z,I⟩
    |true=>exact⟨D,rfl,L,fun _=>O an,I⟩
theorem mt_fn(names own:List BA)(a d:Ty)(ih:SMt names own a)(ao:SMt names own d):SMt names own (.mk ⟨#[102,117,110]⟩ 0 [a,d]):=by
 intro w E vg vs kv G lo hi aw ax u v x h hv hx am;have aa:=h.sm.mp
 have ac:∀(k':BA) (n':Nat) (l':List Ty),u= .mk k' n' l'->((⟨#[102,117,110]⟩:BA).data.toList==k'.data.toList)=false->(Instr.typeAssert x 156 230 true).run prog w= .ok (.tuple #[.pointer none,.bool false]) w->Calls prog 86 #[.map (some E),v,x] w fun e w'=>∃D,e= .returned (.bool (matM (.mk ⟨#[102,117,110]⟩ 0 [a,d]) u G).2)/\SM w' E D/\((matM (.mk ⟨#[102,117,110]⟩ 0 [a,d]) u G).2=true->MG names own D (matM (.mk ⟨#[102,117,110]⟩ 0 [a,d]) u G).1)/\Kq (·=E) w w':=by
  rintro k' n' l' rfl hk au;rw[Jae _ _ _ _ _ _ _ (by decide) hk]
  cases hv with
  |fn _ _ b p q _ m k _ hb ha hd h1 h2=>
   refine(Jmo w E b x hx.iface au).mono ?_
   rintro e w' ⟨rfl,hk⟩;exact⟨kv,rfl,⟨hk.blk h.sm.mp,h.sm.nd⟩,fun z=>by simp at z,Kq.of_kept hk⟩
 cases hx with
 |var n c _ _ _ Z=>exact ac _ _ _ rfl (by decide) (Ib2 _ w)
 |base kd _ _ _ hk=>exact ac _ _ _ rfl (by rcases hk with rfl|rfl<;>decide) (IbM _ w)
 |list _ c _ _ _ _ Z _ _ _=>exact ac _ _ _ rfl (by decide) (IbR _ w)
 |pair _ _ c _ _ _ _ _ _ Z _ _ _ _=>exact ac _ _ _ rfl (by decide) (IbW _ w)
 |fn y t c q1 q2 _ m2 k2 _ Z hy ht h3 h4=>
  cases hv with
  |fn _ _ b p1 p2 _ m k _ hb ha hd h1 h2=>
   have ag:sz y<=120/\sz t<=120:=by simp only[sz,szs]at am;omega
   obtain⟨M,U,rfl⟩:=ha.iface;obtain⟨T2,Y,rfl⟩:=hd.iface;obtain⟨T,V,rfl⟩:=hy.iface;obtain⟨T4,W,rfl⟩:=ht.iface;have ae:Kept w w.drew:=(Kept.refl w).drw;have hM:=Jdk ⟨#[102,117,110]⟩ (by decide) a d y t G
   have cells:∀w',Kq (·=E) w w'->w'.cell? ⟨b,1,none⟩=some (.iface M U)/\w'.cell? ⟨b,2,none⟩=some (.iface T2 Y)/\w'.cell? ⟨c,1,none⟩=some (.iface T V)/\w'.cell? ⟨c,2,none⟩=some (.iface T4 W):=fun w' J=>by
    have av:=(J.block b (Vah hb) (fun z=>by rw[show b=E from z,aa]at hb;cases hb)).trans hb;have al:=(J.block c (Vah Z) (fun z=>by rw[show c=E from z,aa]at Z;cases Z)).trans Z;simp[World.cell?,av,al]
   obtain⟨ai,ah,af,aj⟩:=cells w (Kq.of_kept (Kept.refl w));have H1:=ih w.drew E vg vs kv G _ _ _ _ y _ _ ⟨⟨h.ng.1,h.ng.2⟩,⟨h.ns.1,h.ns.2⟩,h.nd,⟨h.sm.mp,h.sm.nd⟩,h.mg⟩ (ha.keep (PKeep.kept ae)) (hy.keep (PKeep.kept ae)) ag.1
   cases hB:(matM a y G).2 with
   |false=>
    rw[hM,hB];rw[hB]at H1
    have HM:Hid (Calls prog 86 #[.map (some E),.iface M U,.iface T V] w.drew fun e w'=>e= .returned (.bool false)/\Hid (∃D,SM w' E D/\Kq (·=E) w w')/\w'.cell? ⟨b,1,none⟩=some (.iface M U)/\w'.cell? ⟨b,2,none⟩=some (.iface T2 Y)/\w'.cell? ⟨c,1,none⟩=some (.iface T V)/\w'.cell? ⟨c,2,none⟩=some (.iface T4 W)):=by
     refine H1.mono ?_
     rintro e w' ⟨D,rfl,L,O,I⟩;have J:=(Kq.of_kept ae).trans I;exact⟨rfl,⟨D,L,J⟩,cells w' J⟩
    refine(Jmn w E b c M T2 T T4 U Y V W _ ai ah af aj HM).mono ?_
    rintro e w' ⟨rfl,hR⟩;obtain⟨D,L,O⟩:=hR.out;exact⟨D,rfl,L,fun z=>by simp at z,O⟩
   |true=>
    rw[hM,hB];simp only[Va0];rw[hB]at H1
    have HM:Hid (Calls prog 86 #[.map (some E),.iface M U,.iface T V] w.drew fun e w'=>e= .returned (.bool true)/\Hid (∃D,SM w' E D/\MG names own D (matM a y G).1/\Kq (·=E) w w')/\w'.cell? ⟨b,1,none⟩=some (.iface M U)/\w'.cell? ⟨b,2,none⟩=some (.iface T2 Y)/\w'.cell? ⟨c,1,none⟩=some (.iface T V)/\w'.cell? ⟨c,2,none⟩=some (.iface T4 W)):=by
     refine H1.mono ?_
     rintro e w' ⟨D,rfl,L,O,I⟩;have J:=(Kq.of_kept ae).trans I;exact⟨rfl,⟨D,L,O rfl,J⟩,cells w' J⟩
    have ak:Hid (∀w1,Hid (∃D,SM w1 E D/\MG names own D (matM a y G).1/\Kq (·=E) w w1)->Calls prog 86 #[.map (some E),.iface T2 Y,.iface T4 W] w1 fun e w'=>∃r,e= .returned (.bool r)/\Hid (∃D,r=(matM d t (matM a y G).1).2/\SM w' E D/\((matM d t (matM a y G).1).2=true->MG names own D (matM d t (matM a y G).1).1)/\Kq (·=E) w w')/\w'.cell? ⟨b,1,none⟩=some (.iface M U)/\w'.cell? ⟨b,2,none⟩=some (.iface T2 Y)/\w'.cell? ⟨c,1,none⟩=some (.iface T V)/\w'.cell? ⟨c,2,none⟩=some (.iface T4 W)):=by
     intro w1 hR;obtain⟨D,L,O,I⟩:=hR.out;refine(ao w1 E vg vs D _ _ _ _ _ t _ _ ⟨h.ng.kq I aa,h.ns.kq I aa,h.nd,L,O⟩ (hd.kq I aa) (ht.kq I aa) ag.2).mono ?_
     rintro e w' ⟨aq,rfl,f1,f2,f3⟩;have J:=I.trans f3;exact⟨_,rfl,⟨aq,rfl,f1,f2,J⟩,cells w' J⟩
    refine(Jmp w E b c M T2 T T4 U Y V W _ _ ai ah af aj HM ak).mono ?_
    rintro e w' ⟨r,rfl,hR⟩;obtain⟨D,e1,L,O,I⟩:=hR.out;subst e1
    cases an:(matM d t (matM a y G).1).2 with
    |false=>exact⟨D,rfl,L,fun z=>by simp at z,I⟩
    |true=>exact⟨D,rfl,L,fun _=>O an,I⟩
variable {m:Nat}{a:Ty}
theorem Jrg(names own:List BA)(E:MC names own)(h:WT m a):SMt names own a:=by
 induction h with
 |var n G=>exact Jrh names own E n
 |int=>exact Jkp names own _ (.inl rfl)
 |bool=>exact Jkp names own _ (.inr rfl)
 |list a _ d=>exact Jpr names own a d
 |pair a b _ _ d D=>exact Jps names own a b d D
 |fn a b _ _ d D=>exact mt_fn names own a b d D
theorem Ib1(v:Value)(w:World):(Instr.typeAssert (.iface 250 (.agg #[v])) 20 250 true).run prog w= .ok (.tuple #[.agg #[v],.bool true]) w:=by kernel_rfl
theorem JcD(T:TypeId)(u:Value)(w:World):Calls prog 95 #[.iface 250 (.agg #[.iface T u])] w fun e w'=>e= .returned (.iface T u)/\w'=w.alloc (.cells #[.iface T u] 250):=by
 have d:=Ib1 (.iface T u) w
 go_enter func95,ntmps95
 go_wp2
 go_ret
 exact⟨rfl,rfl⟩
theorem Jhc(p q:Addr)(w:World):
  CallsD prog 108 #[.pointer (some p),.pointer (some q)] .returning w fun e D w'=>e= .returned (.tuple #[])/\D= .returning/\w'=w:=by
 refine VcK func108 rfl fun d E h=> ?_
 apply Vea
 apply Vdl
 simp[wpOpsS,go_sem,recoverD,h,ntmps108,Exit.thenS];refine Vdu ?_
 show Code.wp _ _ _ ⟨#[.pointer (some p),.pointer (some q),.nilIface,.nilIface,undef,undef,undef,undef],[]⟩ w
 go_wp2
 cases d
 simp_all[bodyPostS,results,results108]
theorem JaT(p q:Addr)(x y:Value)(T:TypeId)(z:Value)(E:List PanicEntry)(w:World)(G:w.cell? p=some x)(L:w.frozen? p=false)(h:w.cell? q=some y)(O:w.frozen? q=false)(J:p≠q):
  CallsD prog 108 #[.pointer (some p),.pointer (some q)] (.panicking ({v:= .iface 250 (.agg #[.iface T z]),recovered:=false}::E)) w fun e V w'=>
   e= .returned (.tuple #[])/\V= .panicking ({v:= .iface 250 (.agg #[.iface T z]),recovered:=true}::E)/\w'=((w.alloc (.cells #[.iface T z] 250)).setCell p .nilIface).setCell q (.iface T z):=by
 refine VcK func108 rfl fun c₀ cs W=> ?_
 apply Vea
 apply Vdl
 simp[wpOpsS,go_sem,recoverD,W,ntmps108,Exit.thenS];refine Vdu ?_
 show Code.wp _ _ _ ⟨#[.pointer (some p),.pointer (some q),.iface 250 (.agg #[.iface T z]),.iface 250 (.agg #[.iface T z]),undef,undef,undef,undef],[]⟩ w;have M:=Vaw _ _ G;have Z:=Vaw _ _ h;have D:=VaA w (.cells #[.iface T z] 250) p.block M;have bq:=VaA w (.cells #[.iface T z] 250) q.block Z;have aa:=(VaH (a:=p) D).trans G;have ae:=(VbP (a:=p) D).trans L;have I:=(VaH (a:=q) bq).trans h;have Y:=(VbP (a:=q) bq).trans O;have af:((w.alloc (.cells #[.iface T z] 250)).setCell p .nilIface).cell? q=some y:=(Vax _ _ _ _ J).trans I;have ac:((w.alloc (.cells #[.iface T z] 250)).setCell p .nilIface).frozen? q=false:=(VcD _ _ _ _).trans Y;have U:Hid _:=JcD T z w
 go_wp2_with (go_at_call 95;refine Vac U.out ?_;rintro e w' ⟨rfl,d⟩;rw[d];clear d w')
 simp[bodyPostS,results,results108]
theorem Jhb(p q:Addr)(w:World):
  CallsD prog 94 #[.pointer (some p),.pointer (some q)] .returning w fun e D w'=>e= .returned (.tuple #[])/\D= .returning/\w'=w:=by
 refine VcK func94 rfl fun d E h=> ?_
 apply Vea
 apply Vdl
 simp[wpOpsS,go_sem,recoverD,h,ntmps94,Exit.thenS];refine Vdu ?_
 show Code.wp _ _ _ ⟨#[.pointer (some p),.pointer (some q),.nilIface,.nilIface,undef,undef,undef,undef],[]⟩ w
 go_wp2
 cases d
 simp_all[bodyPostS,results,results94]
theorem JaS(p q:Addr)(x y:Value)(T:TypeId)(z:Value)(E:List PanicEntry)(w:World)(G:w.cell? p=some x)(L:w.frozen? p=false)(h:w.cell? q=some y)(O:w.frozen? q=false)(J:p≠q):
  CallsD prog 94 #[.pointer (some p),.pointer (some q)] (.panicking ({v:= .iface 250 (.agg #[.iface T z]),recovered:=false}::E)) w fun e V w'=>
   e= .returned (.tuple #[])/\V= .panicking ({v:= .iface 250 (.agg #[.iface T z]),recovered:=true}::E)/\w'=((w.alloc (.cells #[.iface T z] 250)).setCell p .nilIface).setCell q (.iface T z):=by
 refine VcK func94 rfl fun c₀ cs W=> ?_
 apply Vea
 apply Vdl
 simp[wpOpsS,go_sem,recoverD,W,ntmps94,Exit.thenS];refine Vdu ?_
 show Code.wp _ _ _ ⟨#[.pointer (some p),.pointer (some q),.iface 250 (.agg #[.iface T z]),.iface 250 (.agg #[.iface T z]),undef,undef,undef,undef],[]⟩ w;have M:=Vaw _ _ G;have Z:=Vaw _ _ h;have D:=VaA w (.cells #[.iface T z] 250) p.block M;have bq:=VaA w (.cells #[.iface T z] 250) q.block Z;have aa:=(VaH (a:=p) D).trans G;have ae:=(VbP (a:=p) D).trans L;have I:=(VaH (a:=q) bq).trans h;have Y:=(VbP (a:=q) bq).trans O;have af:((w.alloc (.cells #[.iface T z] 250)).setCell p .nilIface).cell? q=some y:=(Vax _ _ _ _ J).trans I;have ac:((w.alloc (.cells #[.iface T z] 250)).setCell p .nilIface).frozen? q=false:=(VcD _ _ _ _).trans Y;have U:Hid _:=JcD T z w
 go_wp2_with (go_at_call 95;refine Vac U.out ?_;rintro e w' ⟨rfl,d⟩;rw[d];clear d w')
 simp[bodyPostS,results,results94]
theorem JkW(s:BA)(kws:List BA)(L:List Tk)(M:PEnv s kws L)(aa:kws= [⟨#[105,110,116]⟩,⟨#[98,111,111,108]⟩])(n:Nat):Jjm s L n/\Jqq s L n:=by
 have Y:⟨#[105,110,116]⟩∈kws:=by rw[aa];simp
 have Z:⟨#[98,111,111,108]⟩∈kws:=by rw[aa];simp
 induction n with
 |zero=>
  refine⟨?_,?_⟩
  .intro w I G k names vb t ac k' ae h U J E d;simp[Jaq]at d
  .intro w I G k names vb t ac k' ae h U J E d;simp[oneM]at d
 |succ n ih=>
  refine⟨JkX s kws L M n ih.1 ih.2,?_⟩
  intro w I G k names vb t ac k' ae h U J E d;simp only[oneM]at d
  cases O:isM L ⟨#[105,110,116]⟩ k (-1)
  .rw[O]at d
   cases W:isM L ⟨#[98,111,111,108]⟩ k (-1)
   .rw[W]at d
    cases D:isM L ⟨#[110,97,109,101]⟩ k (-1)
    .cases T:isM L ⟨#[91]⟩ k (-1)
     .rw[T]at d
      cases V:isM L ⟨#[40]⟩ k (-1)
      .rw[V]at d;simp only[Vao,VaS,Vaa,Vaf]at d;obtain⟨_,_,_,rfl⟩:=d;rw[(Jbk D (by omega)).1];exact JmJ s kws L M Y Z w I G k names vb t ac k' h U J E aa O W D T V
      .rw[V]at d;simp only[Vao,VaS,Va0]at d;obtain⟨⟨x,n1,k1,b1⟩,q1,q2⟩:=Vab.1 d;exact JmK s kws L M Y Z w I G k names vb t ac k' ae h U J E aa O W D T V (fun w1 af ag=>Jmz s kws L M n ih.1 w1 I G k names vb x n1 k1 b1 t ac k' ae af ag J E V q1 q2)
     .rw[T]at d;simp only[Vao,VaS,Va0]at d;obtain⟨⟨x,n1,k1,b1⟩,q1,q2⟩:=Vab.1 d;simp only[Vaa,Vaf]at q2;obtain⟨rfl,rfl,rfl,rfl⟩:=q2;exact JkN s kws L M Y Z w I G k names vb _ _ _ _ h U J E aa O W D T (fun w1 af ag=>JkK s kws L M n ih.1 w1 I G k names vb x n1 k1 b1 af ag J E T q1)
    .have T:isM L ⟨#[91]⟩ k (-1)=false:=by
      simp only[isM,Vaz]at D;simp only[isM];rw[(Jaf (tkAt L k).is ⟨#[110,97,109,101]⟩).1 D.2];decide
     have V:isM L ⟨#[40]⟩ k (-1)=false:=by
      simp only[isM,Vaz]at D;simp only[isM];rw[(Jaf (tkAt L k).is ⟨#[110,97,109,101]⟩).1 D.2];decide
     rw[T,V]at d;simp only[Vao,VaS,Vaa,Vaf]at d;obtain⟨rfl,rfl,rfl,rfl⟩:=d;rw[(JcR D).1,(JcR D).2];exact JkO s kws L M Y Z w I G k names vb h U J E O W D
   .rw[W]at d;simp only[Vao,VaS,Va0,Vaa,Vaf]at d;obtain⟨rfl,rfl,rfl,rfl⟩:=d;exact JkM s kws L M Y Z w I G k names vb h U J E O W
  .rw[O]at d;simp only[Va0,Vaa,Vaf]at d;obtain⟨rfl,rfl,rfl,rfl⟩:=d;exact JmL s kws L M Y Z w I G k names vb h U J E O
end Go.Proofs.YtleenphlgbklmaaGreatDoor
