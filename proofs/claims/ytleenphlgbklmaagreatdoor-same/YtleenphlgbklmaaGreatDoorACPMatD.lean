import Derived.Test.YtleenphlgbklmaaGreatDoorACPMatC
set_option linter.unusedVariables false
set_option linter.unusedSimpArgs false
set_option maxRecDepth 100000
set_option maxHeartbeats 8000000
namespace Go.Proofs.YtleenphlgbklmaaGreatDoor
open Go.RowKit
open Act renaming put → Vet
open Tryz
theorem JiW(w:World)(d b:Nat)(x:Value)(h:∃T z,x= .iface T z)(E:(Instr.typeAssert x 156 226 true).run prog w= .ok (.tuple #[.pointer none,.bool false]) w):
  Calls prog 86 #[.map (some d),.iface 226 (.pointer (some ⟨b,0,none⟩)),x] w fun e w'=>e= .returned (.bool false)/\Kept w w':=by
 obtain⟨T,z,rfl⟩:=h;have I:=Ib0 (.pointer (some ⟨b,0,none⟩)) w;have G:=IbY (.pointer (some ⟨b,0,none⟩)) w;have D:=IbZ (.pointer (some ⟨b,0,none⟩)) w
 go_enter Vcd,Vb2
 go_wp2_with fail
 go_region
 all_goals
  go_wp2
  go_ret
  exact⟨rfl,(Kept.refl w).drw⟩
theorem JiV(w:World)(M b c:Nat)(d L D J:TypeId)(h G E I:Value)(R:World->Prop)(ac:w.cell? ⟨b,1,none⟩=some (.iface d h))(aa:w.cell? ⟨b,2,none⟩=some (.iface L G))(ae:w.cell? ⟨c,1,none⟩=some (.iface D E))(Y:w.cell? ⟨c,2,none⟩=some (.iface J I))
 (U:Hid (Calls prog 86 #[.map (some M),.iface d h,.iface D E] w.drew fun e w'=>e= .returned (.bool false)/\Hid (R w')/\w'.cell? ⟨b,1,none⟩=some (.iface d h)/\w'.cell? ⟨b,2,none⟩=some (.iface L G)/\w'.cell? ⟨c,1,none⟩=some (.iface D E)/\w'.cell? ⟨c,2,none⟩=some (.iface J I))):
  Calls prog 86 #[.map (some M),.iface 226 (.pointer (some ⟨b,0,none⟩)),.iface 226 (.pointer (some ⟨c,0,none⟩))] w fun e w'=>e= .returned (.bool false)/\Hid (R w'):=by
 have t0:=Ib0 (.pointer (some ⟨b,0,none⟩)) w;have t1:=IbY (.pointer (some ⟨b,0,none⟩)) w;have t2:=IbZ (.pointer (some ⟨b,0,none⟩)) w;have tc:=IbZ (.pointer (some ⟨c,0,none⟩)) w
 go_enter Vcd,Vb2
 go_wp2_with fail
 refine wp_region_held_drew (S:=fun w'=>w'.cell? ⟨b,1,none⟩=some (.iface d h)/\w'.cell? ⟨b,2,none⟩=some (.iface L G)/\w'.cell? ⟨c,1,none⟩=some (.iface D E)/\w'.cell? ⟨c,2,none⟩=some (.iface J I)) (by kernel_rfl) ?_ (fun Z=> ?_)
 .exact⟨ac,aa,ae,Y⟩
 refine wtk 0 ⟨some 58,.move (.tmp 13),4, "match.go:22",#[],none⟩ (v:= ?_) (.inl ⟨by rfl,?_⟩) ?_
 rotate_left
 .rintro w ⟨_,_,_,_⟩
  go_simp
  try with_reducible rfl
 simp only[Vet,Vai,Vam,Van];refine wtk 1 ⟨some 59,.move (.tmp 58),4, "match.go:22",#[⟨0,.data⟩],none⟩ (v:= ?_) (.inl ⟨by rfl,?_⟩) ?_
 rotate_left
 .rintro w ⟨_,_,_,_⟩
  go_simp
  try with_reducible rfl
 simp only[Vet,Vai,Vam,Van];refine wtk 2 ⟨some 60,.move (.tmp 0),163, "match.go:22",#[⟨1,.guard⟩],some (1,true)⟩ (v:= ?_) (.inl ⟨by rfl,?_⟩) ?_
 rotate_left
 .rintro w ⟨_,_,_,_⟩
  go_simp
  try with_reducible rfl
 simp only[Vet,Vai,Vam,Van];refine wtk 3 ⟨some 61,.move (.tmp 11),226, "match.go:22",#[⟨1,.guard⟩],some (1,true)⟩ (v:= ?_) (.inl ⟨by rfl,?_⟩) ?_
 rotate_left
 .rintro w ⟨_,_,_,_⟩
  go_simp
  try with_reducible rfl
 simp only[Vet,Vai,Vam,Van];refine wtk 4 ⟨some 62,.nilCheck (.tmp 61),0, "match.go:22",#[⟨3,.data⟩,⟨1,.guard⟩],some (1,true)⟩ (v:= ?_) (.inl ⟨by rfl,?_⟩) ?_
 rotate_left
 .rintro w ⟨_,_,_,_⟩
  go_simp
  try with_reducible rfl
 simp only[Vet,Vai,Vam,Van];refine wtk 5 ⟨some 63,.fieldAddr 229 (.tmp 62) 1,0, "match.go:22",#[⟨4,.data⟩,⟨1,.guard⟩],some (1,true)⟩ (v:= ?_) (.inl ⟨by rfl,?_⟩) ?_
 rotate_left
 .rintro w ⟨_,_,_,_⟩
  go_simp
  try with_reducible rfl
 simp only[Vet,Vai,Vam,Van];refine wtk 6 ⟨some 64,.load 156 (.tmp 63),156, "match.go:22",#[⟨5,.data⟩,⟨1,.guard⟩],some (1,true)⟩ (v:= ?_) (.inl ⟨by rfl,?_⟩) ?_
 rotate_left
 .rintro w ⟨_,_,_,_⟩
  go_simp
  try with_reducible rfl
 simp only[Vet,Vai,Vam,Van];refine wtk 7 ⟨some 65,.move (.tmp 12),226, "match.go:22",#[⟨1,.guard⟩],some (1,true)⟩ (v:= ?_) (.inl ⟨by rfl,?_⟩) ?_
 rotate_left
 .rintro w ⟨_,_,_,_⟩
  go_simp
  try with_reducible rfl
 simp only[Vet,Vai,Vam,Van];refine wtk 8 ⟨some 66,.nilCheck (.tmp 65),0, "match.go:22",#[⟨7,.data⟩,⟨1,.guard⟩],some (1,true)⟩ (v:= ?_) (.inl ⟨by rfl,?_⟩) ?_
 rotate_left
 .rintro w ⟨_,_,_,_⟩
  go_simp
  try with_reducible rfl
 simp only[Vet,Vai,Vam,Van];refine wtk 9 ⟨some 67,.fieldAddr 229 (.tmp 66) 1,0, "match.go:22",#[⟨8,.data⟩,⟨1,.guard⟩],some (1,true)⟩ (v:= ?_) (.inl ⟨by rfl,?_⟩) ?_
 rotate_left
 .rintro w ⟨_,_,_,_⟩
  go_simp
  try with_reducible rfl
 simp only[Vet,Vai,Vam,Van];refine wtk 10 ⟨some 68,.load 156 (.tmp 67),156, "match.go:22",#[⟨9,.data⟩,⟨1,.guard⟩],some (1,true)⟩ (v:= ?_) (.inl ⟨by rfl,?_⟩) ?_
 rotate_left
 .rintro w ⟨_,_,_,_⟩
  go_simp
  try with_reducible rfl
 simp only[Vet,Vai,Vam,Van];refine wpAnyH_ready (rs:= [11]) (by kernel_rfl) (by simp) ?_
 refine AllReadyH.cons (o:=⟨some 69,.call {callee:= .value (.func 86),args:= #[.tmp 60,.tmp 64,.tmp 68],argTypes:= #[163,156,156]},4, "match.go:22",#[⟨2,.data⟩,⟨6,.data⟩,⟨10,.data⟩,⟨1,.chain⟩,⟨1,.guard⟩],some (1,true)⟩) rfl (fun K O=> ?_) AllReadyH.nil
 go_simp
 refine Vac U.out ?_
 rintro e w1 ⟨rfl,hR,T,j2,V,W⟩;refine O.out _ _ ⟨T,j2,V,W⟩ (fun af=> ?_)
 clear O K Z
 try simp only[Vet,Vai,Vam,Van]
 refine wtk 12 ⟨some 70,.pick (.tmp 59) (.tmp 69) (.const (.bool false)),4, "match.go:22",#[⟨1,.data⟩,⟨11,.data⟩],none⟩ (v:= ?_) (.inl ⟨by rfl,?_⟩) ?_
 rotate_left
 .rintro w ⟨_,_,_,_⟩
  go_simp
  try with_reducible rfl
 simp only[Vet,Vai,Vam,Van];refine wtk 13 ⟨some 71,.move (.tmp 70),4, "match.go:22",#[⟨12,.data⟩,⟨11,.chain⟩],none⟩ (v:= ?_) (.inl ⟨by rfl,?_⟩) ?_
 rotate_left
 .rintro w ⟨_,_,_,_⟩
  go_simp
  try with_reducible rfl
 simp only[Vet,Vai,Vam,Van];refine wtk 14 ⟨some 72,.move (.tmp 0),163, "match.go:22",#[⟨13,.guard⟩],some (13,true)⟩ (.inr ⟨by rfl,rfl⟩) ?_
 simp only[Vet,Vai,Vam,Van];refine wtk 15 ⟨some 73,.move (.tmp 11),226, "match.go:22",#[⟨13,.guard⟩],some (13,true)⟩ (.inr ⟨by rfl,rfl⟩) ?_
 simp only[Vet,Vai,Vam,Van];refine wtk 16 ⟨some 74,.nilCheck (.tmp 73),0, "match.go:22",#[⟨15,.data⟩,⟨13,.guard⟩],some (13,true)⟩ (.inr ⟨by rfl,rfl⟩) ?_
 simp only[Vet,Vai,Vam,Van];refine wtk 17 ⟨some 75,.fieldAddr 229 (.tmp 74) 2,0, "match.go:22",#[⟨16,.data⟩,⟨13,.guard⟩],some (13,true)⟩ (.inr ⟨by rfl,rfl⟩) ?_
 simp only[Vet,Vai,Vam,Van];refine wtk 18 ⟨some 76,.load 156 (.tmp 75),156, "match.go:22",#[⟨17,.data⟩,⟨13,.guard⟩],some (13,true)⟩ (.inr ⟨by rfl,rfl⟩) ?_
 simp only[Vet,Vai,Vam,Van];refine wtk 19 ⟨some 77,.move (.tmp 12),226, "match.go:22",#[⟨13,.guard⟩],some (13,true)⟩ (.inr ⟨by rfl,rfl⟩) ?_
 simp only[Vet,Vai,Vam,Van];refine wtk 20 ⟨some 78,.nilCheck (.tmp 77),0, "match.go:22",#[⟨19,.data⟩,⟨13,.guard⟩],some (13,true)⟩ (.inr ⟨by rfl,rfl⟩) ?_
 simp only[Vet,Vai,Vam,Van];refine wtk 21 ⟨some 79,.fieldAddr 229 (.tmp 78) 2,0, "match.go:22",#[⟨20,.data⟩,⟨13,.guard⟩],some (13,true)⟩ (.inr ⟨by rfl,rfl⟩) ?_
 simp only[Vet,Vai,Vam,Van];refine wtk 22 ⟨some 80,.load 156 (.tmp 79),156, "match.go:22",#[⟨21,.data⟩,⟨13,.guard⟩],some (13,true)⟩ (.inr ⟨by rfl,rfl⟩) ?_
 simp only[Vet,Vai,Vam,Van];refine wtk 23 ⟨some 81,.call {callee:= .value (.func 86),args:= #[.tmp 72,.tmp 76,.tmp 80],argTypes:= #[163,156,156]},4, "match.go:22",#[⟨14,.data⟩,⟨18,.data⟩,⟨22,.data⟩,⟨13,.chain⟩,⟨13,.guard⟩],some (13,true)⟩ (.inr ⟨by rfl,rfl⟩) ?_
 simp only[Vet,Vai,Vam,Van];refine wtk 24 ⟨some 82,.pick (.tmp 71) (.tmp 81) (.const (.bool false)),4, "match.go:22",#[⟨13,.data⟩,⟨23,.data⟩],none⟩ (v:= ?_) (.inl ⟨by rfl,?_⟩) ?_
 rotate_left
 .rintro w ⟨_,_,_,_⟩
  go_simp
  try with_reducible rfl
 simp only[Vet,Vai,Vam,Van];refine wtk 25 ⟨some 6,.assign (.tmp 82),4, "match.go:22",#[⟨24,.data⟩,⟨23,.chain⟩,⟨0,.phase⟩,⟨1,.phase⟩,⟨2,.phase⟩,⟨3,.phase⟩,⟨4,.phase⟩,⟨5,.phase⟩,⟨6,.phase⟩,⟨7,.phase⟩,⟨8,.phase⟩,⟨9,.phase⟩,⟨10,.phase⟩,⟨11,.phase⟩,⟨12,.phase⟩,⟨13,.phase⟩,⟨14,.phase⟩,⟨15,.phase⟩,⟨16,.phase⟩,⟨17,.phase⟩,⟨18,.phase⟩,⟨19,.phase⟩,⟨20,.phase⟩,⟨21,.phase⟩,⟨22,.phase⟩,⟨23,.phase⟩,⟨24,.phase⟩],none⟩ (v:= ?_) (.inl ⟨by rfl,?_⟩) ?_
 rotate_left
 .rintro w ⟨_,_,_,_⟩
  go_simp
  try with_reducible rfl
 simp only[Vet,Vai,Vam,Van];refine wpAnyH_done (by kernel_rfl) ?_ _
 go_wp2
 go_ret
 exact⟨rfl,hR⟩
theorem JiX(w:World)(O b c:Nat)(d L G I:TypeId)(E h J D:Value)(R:World->Prop)(Q:Bool->World->Prop)(ae:w.cell? ⟨b,1,none⟩=some (.iface d E))(ac:w.cell? ⟨b,2,none⟩=some (.iface L h))(af:w.cell? ⟨c,1,none⟩=some (.iface G J))(aa:w.cell? ⟨c,2,none⟩=some (.iface I D))
 (U:Hid (Calls prog 86 #[.map (some O),.iface d E,.iface G J] w.drew fun e w'=>e= .returned (.bool true)/\Hid (R w')/\w'.cell? ⟨b,1,none⟩=some (.iface d E)/\w'.cell? ⟨b,2,none⟩=some (.iface L h)/\w'.cell? ⟨c,1,none⟩=some (.iface G J)/\w'.cell? ⟨c,2,none⟩=some (.iface I D)))
 (T:Hid (∀M,Hid (R M)->Calls prog 86 #[.map (some O),.iface L h,.iface I D] M fun e w'=>∃r,e= .returned (.bool r)/\Hid (Q r w')/\w'.cell? ⟨b,1,none⟩=some (.iface d E)/\w'.cell? ⟨b,2,none⟩=some (.iface L h)/\w'.cell? ⟨c,1,none⟩=some (.iface G J)/\w'.cell? ⟨c,2,none⟩=some (.iface I D))):
  Calls prog 86 #[.map (some O),.iface 226 (.pointer (some ⟨b,0,none⟩)),.iface 226 (.pointer (some ⟨c,0,none⟩))] w fun e w'=>∃r,e= .returned (.bool r)/\Hid (Q r w'):=by
 have t0:=Ib0 (.pointer (some ⟨b,0,none⟩)) w;have t1:=IbY (.pointer (some ⟨b,0,none⟩)) w;have Z:=IbZ (.pointer (some ⟨b,0,none⟩)) w;have tc:=IbZ (.pointer (some ⟨c,0,none⟩)) w
 go_enter Vcd,Vb2
 go_wp2_with fail
 go_region_held3 (fun w'=>w'.cell? ⟨b,1,none⟩=some (.iface d E)/\w'.cell? ⟨b,2,none⟩=some (.iface L h)/\w'.cell? ⟨c,1,none⟩=some (.iface G J)/\w'.cell? ⟨c,2,none⟩=some (.iface I D)) (go_keep) (first|(go_at_call 86;with_reducible refine Vac U.out ?_;rintro e M ⟨rfl,W,j1,j2,j3,j4⟩)|(go_at_call 86;with_reducible refine Vac (T.out M W) ?_;rintro e w2 ⟨r,rfl,V,Y,k2,k3,k4⟩))
 all_goals
  go_wp2
  go_ret
  exact⟨r,rfl,V⟩
end Go.Proofs.YtleenphlgbklmaaGreatDoor
