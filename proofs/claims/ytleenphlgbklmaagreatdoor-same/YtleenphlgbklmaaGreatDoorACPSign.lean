import Derived.Lib.Builder
import Derived.Lib.AppendStr
import Derived.Lib.UnsafeStr
import Derived.Shelf.RegionOpenPlain
import Derived.Deep.RegionWith
import Derived.Test.YtleenphlgbklmaaGreatDoorACTokList
import Derived.WalkLawsBesides
import Derived.Deep.LoopGhost
import Derived.Lib.Bytealg
set_option linter.unusedVariables false
set_option linter.unusedSimpArgs false
set_option maxRecDepth 100000
set_option maxHeartbeats 8000000
namespace Go.Proofs.YtleenphlgbklmaaGreatDoor
open Go.RowKit
open World renaming cell? → Vet, frozen? → Veu, setCell → Vev
open Lib renaming byteCells → Vew, strCells → Vex, indexByte → Vey
open Tryz
theorem IbC:(prog.info? 185).map (·.size)=some 2:=by kernel_rfl
theorem IaZ:liesAt prog prog.depth 187 (3/prog.cellsOf 187) 0 185 1=true:=by kernel_rfl
theorem JhT(b:Nat)(w:World)(h:w.cell? ⟨b,0,none⟩=some (.pointer (some ⟨b,0,none⟩))):
  Calls prog 185 #[.pointer (some ⟨b,0,none⟩)] w fun e w'=>e= .returned (.tuple #[])/\w'=w:=by
 obtain⟨j,d,_⟩:=Va5.1 IbC
 go_enter func185,ntmps185
 go_wp2
 rw[Lib.run_neq_ptr_same w _ VcF d]
 go_wp2
 go_end0
 exact⟨rfl,rfl⟩
theorem Jjt(H:TypeId)(D:liesAt prog prog.depth H (3/prog.cellsOf H) 0 185 1=true)(b:Nat)(w:World)(I:w.cell? ⟨b,0,none⟩=some (.pointer none))(d:w.shape? b=some (H,3))(G:w.frozen? ⟨b,0,none⟩=false):
  Calls prog 185 #[.pointer (some ⟨b,0,none⟩)] w fun e w'=>e= .returned (.tuple #[])/\w'=w.setCell ⟨b,0,none⟩ (.pointer (some ⟨b,0,none⟩)):=by
 obtain⟨j,h,E⟩:=Va5.1 IbC
 go_enter func185,ntmps185
 go_wp2
 rw[Lib.run_to_unsafe w ⟨b,0,none⟩ VcF Vc9 h (by rw[E];decide) d (Nat.zero_lt_succ 2)];simp only[Result.andThen];rw[Vcs]
 go_wp2
 rw[VaJ func216 (by kernel_rfl) (by kernel_rfl) (by kernel_rfl) (e:=Extern.AbiNoEscape.same) (by kernel_rfl)];rw[Lib.run_noEscape];simp only[Result.andThen];rw[Vcs]
 go_wp2
 rw[Lib.run_from_unsafe w ⟨b,0,none⟩ Vc9 VcF h d D];simp only[Result.andThen];rw[Vcs]
 go_wp2
 go_end0
 exact⟨rfl,rfl⟩
variable {w:World}{base n pb:Nat}{e e':TypeId}{v:Value}{xs:List Value}
theorem JpV{z:Nat}(h:w.ownsRow base e z v n xs){D:Array Value}(d:w.heap[pb]? =some (.cells D e' (0,0)))(E:e'≠e):v.ownBlock≠some pb:=by
 rcases h.2 with⟨rfl,_⟩|⟨g,cap,I,rfl,_,G,_⟩
 .simp[Value.ownBlock]
 .simp only[Value.ownBlock];intro q;obtain rfl:=VbN q;rw[G]at d;simp at d;exact E d.2.symm
def BW(H:TypeId)(w:World)(B b:Nat)(x:Value)(d:List Value):Prop:=B<=b/\∃p v,(p= .pointer none\/p= .pointer (some ⟨b,0,none⟩))/\w.heap[b]? =some (.cells #[p,v,x] H (0,0))/\w.ownsRow B 5 1 v d.length d/\v.ownBlock≠some b
theorem IaO:(prog.info? 5).map (fun i=>(i.zero,i.size,i.bytes))=some (some (.int .u8 0),1,1):=by kernel_rfl
theorem Jow(H:TypeId)(I:liesAt prog prog.depth H (3/prog.cellsOf H) 0 185 1=true)(B b:Nat)(x:Value)(D:List Value)(w:World)(h:BW H w B b x D):
  Calls prog 185 #[.pointer (some ⟨b,0,none⟩)] w fun e w'=>e= .returned (.tuple #[])/\Kp (·=b) w w'/\∃v,w'.heap[b]? =some (.cells #[.pointer (some ⟨b,0,none⟩),v,x] H (0,0))/\w'.ownsRow B 5 1 v D.length D/\v.ownBlock≠some b:=by
 obtain⟨M,p,v,L,d,G,E⟩:=h;have c0:w.cell? ⟨b,0,none⟩=some p:=by simp[Vet,d]
 rcases L with rfl|rfl
 .refine(Jjt H I b w c0 (by simp[World.shape?,d]) (by simp[Veu,d])).mono ?_
  rintro e w' ⟨rfl,rfl⟩;refine⟨rfl,(Kp.refl _ _).setCell _ _ (fun _=>rfl),v,?_,Vdf G E _,E⟩
  simp[Vev,d,Vay]
 .refine(JhT b w c0).mono ?_
  rintro e w' ⟨rfl,J⟩;subst J;exact⟨rfl,Kp.refl _ _,v,d,G,E⟩
theorem Iba:prog.follows Departure.mixedOrders=true:=by kernel_rfl
theorem Iad:prog.cellsOf 5=1:=by kernel_rfl
theorem JlS(H:TypeId)(B b:Nat)(x:Value)(l:List UInt8)(w:World)(h:BW H w B b x (Vew l))(G:l≠ []):
  Calls prog 101 #[.pointer (some ⟨b,0,none⟩)] w fun e w'=>e= .returned (.string ⟨l.toArray⟩)/\Below B w w':=by
 obtain⟨hB,p,v,_,J,D,aa⟩:=h;have U:l.length≠0:=by simpa using G
 rw[Lib.byteCells_length]at D
 obtain⟨g,cap,d,rfl,W,E,V,I,M,Z⟩:∃g cap d,v= .slice (some ⟨g,0,none⟩) l.length cap/\B<=g/\w.heap[g]? =some (.cells d 5 (0,0))/\l.length<=cap/\cap<=maxLen/\d.size=cap*1/\d.toList.take (l.length*1)=Vew l:=by
  rcases D.2 with⟨_,T⟩|⟨g,cap,d,L,r⟩
  .exact absurd T U
  .exact⟨g,cap,d,L,r⟩
 have c1:w.drew.cell? ⟨b,1,none⟩=some (.slice (some ⟨g,0,none⟩) l.length cap):=by
  have:w.drew.heap[b]? =some (.cells #[p,.slice (some ⟨g,0,none⟩) l.length cap,x] H (0,0)):=J;rw[Lib.cell_of_heap this];rfl
 have ae:(Builtin.unsafeSliceData_ #[153] 284 #[.slice (some ⟨g,0,none⟩) l.length cap]).run prog w.drew= .ok (.pointer (some ⟨g,0,none⟩)) w.drew:=
  Lib.run_unsafeSliceData_row _ _ _ _ _ _ (by omega)
 have ac:(Builtin.unsafeString_ #[284,3] 9 #[.pointer (some ⟨g,0,none⟩),.int .i64 l.length]).run prog w.drew= .ok (.string ⟨l.toArray⟩) (w.drew.freeze ⟨g,0,none⟩ l.length):=by
  refine Lib.run_unsafeString_row w.drew 284 3 9 5 underlying284 Iad g d.size (by have O:w.drew.heap[g]? =some (.cells d 5 (0,0)):=E;simp[World.shape?,O]) l G (by omega) (by unfold maxLen at I;omega) ?_
  intro j y Y;have:=D.cells (g:=g) rfl j (.int .u8 y.toNat) (by simp[Vew,Y]);exact this
 have af:=Iba;clear D aa E V I M Z J
 go_enter func101,ntmps101
 go_wp2
 go_region_o
 all_goals (go_wp2;go_ret;exact⟨rfl,Lib.below_freeze (Below.drew (Vbh B w)) (p:=⟨g,0,none⟩) W _⟩)
structure KB(B b:Nat)(w w':World):Prop where
 kp:Kp (fun q=>B<=q) w w'
 oth:∀k cs e f,k≠b->e≠5->w.heap[k]? =some (.cells cs e f)->w'.heap[k]? =some (.cells cs e f)
theorem KB.refl(B b:Nat)(w:World):KB B b w w:=⟨Kp.refl _ _,fun _ _ _ _ _ _ h=>h⟩
variable {B b:Nat}{x y z:World}
theorem KB.trans(h:KB B b x y)(k:KB B b y z):KB B b x z:=⟨h.kp.trans k.kp,fun q d e f D E G=>k.oth q d e f D E (h.oth q d e f D E G)⟩
theorem KB.alloc(B b:Nat)(w:World)(o:Obj):KB B b w (w.alloc o):=⟨(Kp.refl _ _).alloc _,fun q d e f _ _ h=>((Kp.refl (fun _=>False) w).alloc o).blk h (fun z=>z)⟩
theorem JhY(H:TypeId)(hl:liesAt prog prog.depth H (3/prog.cellsOf H) 0 185 1=true)(hH:H≠5)(B b:Nat)(x:Value)(d:List Value)(s:BA)(w:World)(h:BW H w B b x d)(an:d.length+s.size<=1000000000):
  Calls prog 147 #[.pointer (some ⟨b,0,none⟩),.string s] w fun e w'=>e= .returned (.tuple #[.int .i64 s.size,.nilIface])/\BW H w' B b x (d++Vex s)/\KB B b w w':=by
 obtain⟨i0,hi,af,aj,ah⟩:=VcX IaO;have Y:=h.1;have HC:Hid _:=Jow H hl B b x d w h;have am:b<w.heap.size:=by obtain⟨_,p,v,_,hb,_⟩:=h;exact Vah hb
 clear h
 go_enter func147,ntmps147
 go_wp2_with fail
 refine Vac HC.out ?_
 rintro e w1 ⟨rfl,U,v,O,L,ak⟩;have E:w1.cell? ⟨b,1,none⟩=some v:=by simp[Vet,O]
 have al:=U.size;clear HC
 go_wp2_with (at_builtin;refine Lib.wpList_append_own_string _ rfl _ _ 153 9 rfl B 5 i0 underlying153 VaR hi af aj ah _ _ _ rfl L s rfl (by unfold maxLen;omega) (by omega) (by omega) ?_)
 intro v' D M J ae
 obtain⟨G,cap2,rfl⟩:∃ao cap,v'= .slice ao (d.length+s.size) cap:=by
  rcases M.2 with⟨T,e2⟩|⟨g,cap,ai,T,_⟩
  .exact⟨none,0,by rw[T,e2]⟩
  .exact⟨_,cap,T⟩
 have ag:=Vah O
 have I:D.heap[b]? =some (.cells #[.pointer (some ⟨b,0,none⟩),v,x] H (0,0)):=by
  rw[J.block b ag (fun e=>ak e.symm)];exact O
 have d1:D.cell? ⟨b,1,none⟩=some v:=by simp[Vet,I]
 have f1:D.frozen? ⟨b,1,none⟩=false:=by simp[Veu,I]
 have Z:(Value.slice G (d.length+s.size) cap2).ownBlock≠some b:=JpV M I hH
 have hF:BW H (D.setCell ⟨b,1,none⟩ (.slice G (d.length+s.size) cap2)) B b x (d++Vex s):=by
  refine⟨Y,.pointer (some ⟨b,0,none⟩),.slice G (d.length+s.size) cap2,.inr rfl,?_,?_,Z⟩
  .simp[Vev,I,Vay]
  .have:=Vdf M (a:=⟨b,1,none⟩) Z (.slice G (d.length+s.size) cap2);simpa[Vex]using this
 have V:Kp (fun q=>B<=q) w (D.setCell ⟨b,1,none⟩ (.slice G (d.length+s.size) cap2)):=
  ((U.mono (fun q _ e=>by have e:q=b:=e;omega)).grown J (fun q e _=>(L.lt q e).1)).setCell _ _ (fun _=>Y)
 have aa:KB B b w (D.setCell ⟨b,1,none⟩ (.slice G (d.length+s.size) cap2)):=by
  refine⟨V,fun k cs e f W he hc=> ?_⟩
  have E:w1.heap[k]? =some (.cells cs e f):=U.blk hc (fun z=>W z)
  have ac:v.ownBlock≠some k:=fun z=>by
   rcases L.2 with⟨rfl,_⟩|⟨g,cap,ai,rfl,_,h3,_⟩
   .cases z
   .cases z
    rw[h3]at E;simp only[Vaa,VaT]at E;exact he E.2.1.symm
  have c2:D.heap[k]? =some (.cells cs e f):=by rw[J.block k (Vah E) (fun z=>ac z.symm)];exact E
  rw[<-c2];simp only[Vev];rw[Vay,Vaq (fun z=>W z.symm)]
 clear M J ae O L V
 go_wp2
 exact VaI (v:= .tuple #[.int .i64 s.size,.nilIface]) (by simp[results,results147,go_sem]) rfl ⟨rfl,hF,aa⟩
theorem Ji6(c:Int)(w:World):Calls prog 171 #[.int .u8 c] w fun e w'=>e= .returned (.bool (blI c))/\w'=w:=by
 by_cases d:c=32
 .have E:Hid (blI c=true):=by simp[Hid,blI,d]
  have D:(c==32)=true:=by simp[d]
  clear d
  go_enter func171,ntmps171
  go_wp2
  go_ret
  exact⟨by rw[E.out];rfl,rfl⟩
 .have D:(c==32)=false:=by simp[d]
  by_cases h:c=10
  .have E:Hid (blI c=true):=by simp[Hid,blI,h]
   have G:(c==10)=true:=by simp[h]
   clear d h
   go_enter func171,ntmps171
   go_wp2
   go_ret
   exact⟨by rw[E.out];rfl,rfl⟩
  .have E:Hid (blI c=false):=by simp[Hid,blI,d,h]
   have G:(c==10)=false:=by simp[h]
   clear d h
   go_enter func171,ntmps171
   go_wp2
   go_ret
   exact⟨by rw[E.out];rfl,rfl⟩
theorem JaN(c:Int)(w:World):Calls prog 196 #[.int .u8 c] w fun e w'=>e= .returned (.bool (lowI c))/\w'=w:=by
 by_cases h:97<=c
 .by_cases d:c<=122
  .have e:lowI c=true:=by simp[lowI,h,d]
   rw[e];clear e
   go_enter func196,ntmps196
   go_wp2
   go_ret
   exact⟨rfl,rfl⟩
  .have e:lowI c=false:=by simp[lowI];omega
   rw[e];clear e
   go_enter func196,ntmps196
   go_wp2
   go_ret
   exact⟨rfl,rfl⟩
 .have e:lowI c=false:=by simp[lowI];omega
  rw[e];clear e
  go_enter func196,ntmps196
  go_wp2
  go_ret
  exact⟨rfl,rfl⟩
theorem JbG(c:Int)(w:World):Calls prog 207 #[.int .u8 c] w fun e w'=>e= .returned (.bool (figI c))/\w'=w:=by
 by_cases h:48<=c
 .by_cases d:c<=57
  .have e:figI c=true:=by simp[figI,h,d]
   rw[e];clear e
   go_enter func207,ntmps207
   go_wp2
   go_ret
   exact⟨rfl,rfl⟩
  .have e:figI c=false:=by simp[figI];omega
   rw[e];clear e
   go_enter func207,ntmps207
   go_wp2
   go_ret
   exact⟨rfl,rfl⟩
 .have e:figI c=false:=by simp[figI];omega
  rw[e];clear e
  go_enter func207,ntmps207
  go_wp2
  go_ret
  exact⟨rfl,rfl⟩
theorem JpF(c:Int)(w:World):Calls prog 197 #[.int .u8 c] w fun e w'=>e= .returned (.bool (lfI c))/\w'=w:=by
 have e:Hid (lfI c=(lowI c||figI c)):=rfl;have D:Hid _:=JaN c w;have h:Hid _:=JbG c w
 cases l1:lowI c<;>cases l2:figI c
 all_goals
  have E:Hid _:=e.out;rw[l1,l2]at E;rw[l1]at D;rw[l2]at h
  go_enter func197,ntmps197
  go_wp2_with (first|(go_at_call 196;refine Vac D.out ?_;rintro e w' ⟨rfl,d⟩;rw[d];clear d w')|(go_at_call 207;refine Vac h.out ?_;rintro e w' ⟨rfl,d⟩;rw[d];clear d w'))
  go_ret
  exact⟨by rw[E.out];rfl,rfl⟩
theorem Je8(t:BA)(ht:t.size<=300)(w:World):Calls prog 170 #[.string t,.func (Fn.func 171) #[] #[]] w fun e w'=>e= .returned (.int .i64 (run blI t 0:Nat))/\w'=w:=by
 go_enter func170,ntmps170
 go_wp2
 go_loop [5] (fun v=>∃j:Nat,v= .int .i64 j/\j<=t.size/\run blI t j=run blI t 0) (fun v=>t.size-(intOf v).toNat)
 case atStart=>exact⟨0,rfl,VaN _,rfl⟩
 case round=>
  obtain⟨j,rfl,U,O⟩:=hrel;have d:Hid (run blI t j=run blI t 0):=O;clear O
  by_cases M:j<t.size
  .have T:=JbZ t j M;have J:=Ja7 blI t j M;have L:=Ja8 blI t j;have I:Hid _:=Ji6 (chr t j) w
   cases D:blI (chr t j)
   .have E:Hid (j=run blI t 0):=by show _=_;rw[<-d.out,L (fun _=>D)]
    rw[D]at I;clear J L d D
    go_wp2_with (go_at_call 171;refine Vac I.out ?_;rintro e w' ⟨rfl,G⟩;rw[G];clear G w')
    go_ret
    exact⟨by rw[<-E.out];rfl,rfl⟩
   .have E:Hid (run blI t (j+1)=run blI t 0):=by show _=_;rw[<-J D];exact d.out
    rw[D]at I;clear J L d D
    go_wp2_with (go_at_call 171;refine Vac I.out ?_;rintro e w' ⟨rfl,G⟩;rw[G];clear G w')
    go_round
    case rel=>exact⟨j+1,by go_num,by omega,E.out⟩
    case measure=>simp[intOf];omega
  .have E:Hid (j=run blI t 0):=by show _=_;rw[<-d.out,Ja8 blI t j (fun h=>absurd h M)]
   clear d
   go_wp2
   go_ret
   exact⟨by rw[<-E.out];rfl,rfl⟩
theorem Jhm(t:BA)(ht:t.size<=300)(w:World):Calls prog 170 #[.string t,.func (Fn.func 197) #[] #[]] w fun e w'=>e= .returned (.int .i64 (run lfI t 0:Nat))/\w'=w:=by
 go_enter func170,ntmps170
 go_wp2
 go_loop [5] (fun v=>∃j:Nat,v= .int .i64 j/\j<=t.size/\run lfI t j=run lfI t 0) (fun v=>t.size-(intOf v).toNat)
 case atStart=>exact⟨0,rfl,VaN _,rfl⟩
 case round=>
  obtain⟨j,rfl,U,O⟩:=hrel;have d:Hid (run lfI t j=run lfI t 0):=O;clear O
  by_cases M:j<t.size
  .have T:=JbZ t j M;have J:=Ja7 lfI t j M;have L:=Ja8 lfI t j;have I:Hid _:=JpF (chr t j) w
   cases D:lfI (chr t j)
   .have E:Hid (j=run lfI t 0):=by show _=_;rw[<-d.out,L (fun _=>D)]
    rw[D]at I;clear J L d D
    go_wp2_with (go_at_call 197;refine Vac I.out ?_;rintro e w' ⟨rfl,G⟩;rw[G];clear G w')
    go_ret
    exact⟨by rw[<-E.out];rfl,rfl⟩
   .have E:Hid (run lfI t (j+1)=run lfI t 0):=by show _=_;rw[<-J D];exact d.out
    rw[D]at I;clear J L d D
    go_wp2_with (go_at_call 197;refine Vac I.out ?_;rintro e w' ⟨rfl,G⟩;rw[G];clear G w')
    go_round
    case rel=>exact⟨j+1,by go_num,by omega,E.out⟩
    case measure=>simp[intOf];omega
  .have E:Hid (j=run lfI t 0):=by show _=_;rw[<-d.out,Ja8 lfI t j (fun h=>absurd h M)]
   clear d
   go_wp2
   go_ret
   exact⟨by rw[<-E.out];rfl,rfl⟩
theorem Je9(t:BA)(ht:t.size<=300)(w:World):Calls prog 170 #[.string t,.func (Fn.func 207) #[] #[]] w fun e w'=>e= .returned (.int .i64 (run figI t 0:Nat))/\w'=w:=by
 go_enter func170,ntmps170
 go_wp2
 go_loop [5] (fun v=>∃j:Nat,v= .int .i64 j/\j<=t.size/\run figI t j=run figI t 0) (fun v=>t.size-(intOf v).toNat)
 case atStart=>exact⟨0,rfl,VaN _,rfl⟩
 case round=>
  obtain⟨j,rfl,U,O⟩:=hrel;have d:Hid (run figI t j=run figI t 0):=O;clear O
  by_cases M:j<t.size
  .have T:=JbZ t j M;have J:=Ja7 figI t j M;have L:=Ja8 figI t j;have I:Hid _:=JbG (chr t j) w
   cases D:figI (chr t j)
   .have E:Hid (j=run figI t 0):=by show _=_;rw[<-d.out,L (fun _=>D)]
    rw[D]at I;clear J L d D
    go_wp2_with (go_at_call 207;refine Vac I.out ?_;rintro e w' ⟨rfl,G⟩;rw[G];clear G w')
    go_ret
    exact⟨by rw[<-E.out];rfl,rfl⟩
   .have E:Hid (run figI t (j+1)=run figI t 0):=by show _=_;rw[<-J D];exact d.out
    rw[D]at I;clear J L d D
    go_wp2_with (go_at_call 207;refine Vac I.out ?_;rintro e w' ⟨rfl,G⟩;rw[G];clear G w')
    go_round
    case rel=>exact⟨j+1,by go_num,by omega,E.out⟩
    case measure=>simp[intOf];omega
  .have E:Hid (j=run figI t 0):=by show _=_;rw[<-d.out,Ja8 figI t j (fun h=>absurd h M)]
   clear d
   go_wp2
   go_ret
   exact⟨by rw[<-E.out];rfl,rfl⟩
theorem Jd3(s:BA)(k j:Nat)(D:k<=s.size):chr (s.extract k s.size) j=chr s (k+j):=by
 unfold chr
 by_cases h:k+j<s.size
 .have d:j<(s.extract k s.size).size:=by simp[Va2];omega
  rw[Vdp d,Vdp h];simp[Vd4]
 .have d: ¬j<(s.extract k s.size).size:=by simp[Va2];omega
  rw[dif_neg d,dif_neg h]
theorem JgO(p:Int->Bool)(s:BA)(k:Nat)(d:k<=s.size):∀f j,k+runF p (s.extract k s.size) f j=runF p s f (k+j)
 |0,j=>rfl
 |f+1,j=>by
  have D:(s.extract k s.size).size=s.size-k:=by simp[Va2]
  rw[runF,runF,Jd3 s k j d,D]
  by_cases h:j<s.size-k/\p (chr s (k+j))=true
  .rw[Vat h,Vat ⟨by omega,h.2⟩];exact JgO p s k d f (j+1)
  .rw[Vaq h,Vaq (fun q=>h ⟨by omega,q.2⟩)]
theorem JcT(p:Int->Bool)(s:BA)(k:Nat)(d:k<=s.size):k+run p (s.extract k s.size) 0=run p s k:=by
 have h:(s.extract k s.size).size=s.size-k:=by simp[Va2]
 unfold run;rw[h];have:=JgO p s k d (s.size-k) 0;simpa using this
theorem Jng(b:UInt8):decide (0<=Vey [61,40,41,44,91,93] b)=JaW (b.toNat:Int):=by
 by_cases E:b=61
 .subst E;rfl
 by_cases I:b=40
 .subst I;rfl
 by_cases d:b=41
 .subst d;rfl
 by_cases h:b=44
 .subst h;rfl
 by_cases J:b=91
 .subst J;rfl
 by_cases D:b=93
 .subst D;rfl
 have e:∀k:UInt8,b≠k->(k==b)=false:=fun k G=>by simp;exact fun q=>G q.symm
 have n:∀k:UInt8,b≠k->¬((b.toNat:Int)=(k.toNat:Int)):=fun k G q=>G (VcM.1 (by omega))
 have O:=n 61 E;have L:=n 40 I;have V:=n 41 d;have U:=n 44 h;have M:=n 91 J;have T:=n 93 D;simp only[Vey,e 61 E,e 40 I,e 41 d,e 44 h,e 91 J,e 93 D];simp only[JaW];simp at O L V U M T;simp;omega
theorem Jnf(s:BA)(c:Int)(w:World):Calls prog 225 #[.string s,.int .u8 c] w fun e w'=>e= .returned (.int .i64 (Vey s.data.toList c.toNat.toUInt8))/\w'=w:=by
 have d:= @VaJ prog 249 _ Extern.BytealgIndexByte.indexByte func249 (by kernel_rfl) (by kernel_rfl) (by kernel_rfl) (by kernel_rfl);have h:=Lib.run_indexByteString (P:=prog) s c w;generalize Vey s.data.toList c.toNat.toUInt8=r at*
 go_enter func225,ntmps225
 go_wp2
 go_ret
 exact⟨rfl,rfl⟩
theorem Jp3(s p:BA)(w:World)(E:s.size<=300)(G:p.size<=300):Calls prog 224 #[.string s,.string p] w fun e w'=>e= .returned (.bool (decide (p.size<=s.size)&&((s.extract 0 p.size).toList==p.toList)))/\w'=w:=by
 by_cases h:p.size<=s.size
 .have d:decide (p.size<=s.size)=true:=by simp[h]
  rw[d]
  cases D:((s.extract 0 p.size).toList==p.toList)
  all_goals
   go_enter func224,ntmps224
   go_wp2
   go_ret
   exact⟨rfl,rfl⟩
 .have d:decide (p.size<=s.size)=false:=by simp;omega
  rw[d]
  go_enter func224,ntmps224
  go_wp2
  go_ret
  exact⟨rfl,rfl⟩
theorem pre2(t:BA)(h:2<=t.size):((t.extract 0 2).toList== [45,62])=(decide (chr t 0=45)&&decide (chr t 1=62)):=by
 have D:(t.extract 0 2).toList= [t[0],t[1]]:=by
  rw[VaL];apply VdK
  .simp[Va2];omega
  .intro i M I;have J:i=0\/i=1:=by simp at I;omega
   rcases J with rfl|rfl<;>simp[Vbg]<;>rfl
 rw[D,chr,chr,Vdp (by omega),Vdp (by omega)]
 have e:∀(b:UInt8) (k:Nat),k<256->((b==UInt8.ofNat k)=decide ((b.toNat:Int)=(k:Int))):=fun b k d=>by
  by_cases q:b=UInt8.ofNat k
  .subst q;simp[VcT,VdH d]
  .have: ¬((b.toNat:Int)=(k:Int)):=fun z=>q (VcM.1 (by rw[VcT,VdH d];omega))
   simp[q,this]
 have L:=e t[0] 45 (by decide);have G:=e t[1] 62 (by decide)
 have E:([t[0],t[1]]==([45,62]:List UInt8))=((t[0]==UInt8.ofNat 45)&&(t[1]==UInt8.ofNat 62)):=by
  show((t[0]==45)&&((t[1]==62)&&true))=_;rw[Bool.and_true];rfl
 rw[E,L,G];rfl
theorem JeP(t:BA)(ht:t.size<=300)(T:0<t.size)(w:World):
  Calls prog 208 #[.string t] w fun e w'=>e= .returned (.int .i64 (if chr t 0=45/\1<t.size/\chr t 1=62 then 2 else if JaW (chr t 0)then 1 else 0))/\w'=w:=by
 have D:Hid _:=Jp3 t ⟨#[45,62]⟩ w ht (by decide)
 have L:(decide (((⟨#[45,62]⟩:BA).size)<=t.size)&&((t.extract 0 ((⟨#[45,62]⟩:BA).size)).toList==(⟨#[45,62]⟩:BA).toList))=decide (chr t 0=45/\1<t.size/\chr t 1=62):=by
  rw[show((⟨#[45,62]⟩:BA).size)=2 from rfl,show(⟨#[45,62]⟩:BA).toList= [45,62]from by rw[VaL]]
  by_cases I:2<=t.size
  .rw[pre2 t I];have:1<t.size:=by omega
   simp[this,I]
  .have: ¬1<t.size:=by omega
   simp[this,I]
 rw[L]at D;clear L;have G:Hid _:=Jnf ⟨#[61,40,41,44,91,93]⟩ (chr t 0) w;have M:=JbZ t 0 T
 have J:decide (0<=Vey [61,40,41,44,91,93] (chr t 0).toNat.toUInt8)=JaW (chr t 0):=by
  have:=Jng t[0];rw[M]at this;rw[<-this,<-M];simp
 by_cases h:chr t 0=45/\1<t.size/\chr t 1=62
 .have E:decide (chr t 0=45/\1<t.size/\chr t 1=62)=true:=by simp[h]
  rw[E]at D;rw[Vat h];clear h J G E
  go_enter func208,ntmps208
  go_wp2_with fail
  refine Vac D.out ?_
  rintro e w' ⟨rfl,d⟩;rw[d];clear d w'
  go_wp2
  go_ret
  exact⟨rfl,rfl⟩
 .have E:decide (chr t 0=45/\1<t.size/\chr t 1=62)=false:=by simp[h]
  rw[E]at D;rw[Vaq h];clear h E;have U:Hid (Calls prog 225 #[.string ⟨#[61,40,41,44,91,93]⟩,.int .u8 (chr t 0)] w fun e w'=>e= .returned (.int .i64 (Vey [61,40,41,44,91,93] (chr t 0).toNat.toUInt8))/\w'=w):=G.out;clear G;generalize Vey [61,40,41,44,91,93] (chr t 0).toNat.toUInt8=r at*
  cases O:JaW (chr t 0)
  all_goals
   rw[O]at J
   go_enter func208,ntmps208
   go_wp2_with fail
   refine Vac D.out ?_
   rintro e w' ⟨rfl,d⟩;rw[d];clear d w'
   go_wp2_with fail
   refine Vac U.out ?_
   rintro e w' ⟨rfl,d⟩;rw[d];clear d w'
   go_wp2
   go_ret
   exact⟨rfl,rfl⟩
end Go.Proofs.YtleenphlgbklmaaGreatDoor
