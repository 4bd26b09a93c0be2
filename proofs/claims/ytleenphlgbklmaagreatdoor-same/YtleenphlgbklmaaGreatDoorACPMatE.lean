import Derived.Test.YtleenphlgbklmaaGreatDoorACPMatC
set_option linter.unusedVariables false
set_option linter.unusedSimpArgs false
set_option maxRecDepth 100000
set_option maxHeartbeats 8000000
namespace Go.Proofs.YtleenphlgbklmaaGreatDoor
open Go.RowKit
open Act renaming put → Vet
open Tryz
theorem Jmo(w:World)(d b:Nat)(x:Value)(h:∃T z,x= .iface T z)(G:(Instr.typeAssert x 156 230 true).run prog w= .ok (.tuple #[.pointer none,.bool false]) w):
  Calls prog 86 #[.map (some d),.iface 230 (.pointer (some ⟨b,0,none⟩)),x] w fun e w'=>e= .returned (.bool false)/\Kept w w':=by
 obtain⟨T,z,rfl⟩:=h;have J:=IbL (.pointer (some ⟨b,0,none⟩)) w;have I:=IbJ (.pointer (some ⟨b,0,none⟩)) w;have D:=IbK (.pointer (some ⟨b,0,none⟩)) w;have E:=IbH (.pointer (some ⟨b,0,none⟩)) w
 go_enter Vcd,Vb2
 go_wp2_with fail
 go_region
 all_goals
  go_wp2
  go_ret
  exact⟨rfl,(Kept.refl w).drw⟩
theorem Jmn(w:World)(M b c:Nat)(d L D J:TypeId)(h G E I:Value)(R:World->Prop)(ac:w.cell? ⟨b,1,none⟩=some (.iface d h))(aa:w.cell? ⟨b,2,none⟩=some (.iface L G))(ae:w.cell? ⟨c,1,none⟩=some (.iface D E))(Y:w.cell? ⟨c,2,none⟩=some (.iface J I))
 (U:Hid (Calls prog 86 #[.map (some M),.iface d h,.iface D E] w.drew fun e w'=>e= .returned (.bool false)/\Hid (R w')/\w'.cell? ⟨b,1,none⟩=some (.iface d h)/\w'.cell? ⟨b,2,none⟩=some (.iface L G)/\w'.cell? ⟨c,1,none⟩=some (.iface D E)/\w'.cell? ⟨c,2,none⟩=some (.iface J I))):
  Calls prog 86 #[.map (some M),.iface 230 (.pointer (some ⟨b,0,none⟩)),.iface 230 (.pointer (some ⟨c,0,none⟩))] w fun e w'=>e= .returned (.bool false)/\Hid (R w'):=by
 have t0:=IbL (.pointer (some ⟨b,0,none⟩)) w;have t1:=IbJ (.pointer (some ⟨b,0,none⟩)) w;have t2:=IbK (.pointer (some ⟨b,0,none⟩)) w;have t3:=IbH (.pointer (some ⟨b,0,none⟩)) w;have tc:=IbH (.pointer (some ⟨c,0,none⟩)) w
 go_enter Vcd,Vb2
 go_wp2_with fail
 refine wp_region_held_drew (S:=fun w'=>w'.cell? ⟨b,1,none⟩=some (.iface d h)/\w'.cell? ⟨b,2,none⟩=some (.iface L G)/\w'.cell? ⟨c,1,none⟩=some (.iface D E)/\w'.cell? ⟨c,2,none⟩=some (.iface J I)) (by kernel_rfl) ?_ (fun Z=> ?_)
 .exact⟨ac,aa,ae,Y⟩
 refine wtk 0 ⟨some 91,.move (.tmp 16),4, "match.go:25",#[],none⟩ (v:= ?_) (.inl ⟨by rfl,?_⟩) ?_
 rotate_left
 .rintro w ⟨_,_,_,_⟩
  go_simp
  try with_reducible rfl
 simp only[Vet,Vai,Vam,Van];refine wtk 1 ⟨some 92,.move (.tmp 91),4, "match.go:25",#[⟨0,.data⟩],none⟩ (v:= ?_) (.inl ⟨by rfl,?_⟩) ?_
 rotate_left
 .rintro w ⟨_,_,_,_⟩
  go_simp
  try with_reducible rfl
 simp only[Vet,Vai,Vam,Van];refine wtk 2 ⟨some 93,.move (.tmp 0),163, "match.go:25",#[⟨1,.guard⟩],some (1,true)⟩ (v:= ?_) (.inl ⟨by rfl,?_⟩) ?_
 rotate_left
 .rintro w ⟨_,_,_,_⟩
  go_simp
  try with_reducible rfl
 simp only[Vet,Vai,Vam,Van];refine wtk 3 ⟨some 94,.move (.tmp 14),230, "match.go:25",#[⟨1,.guard⟩],some (1,true)⟩ (v:= ?_) (.inl ⟨by rfl,?_⟩) ?_
 rotate_left
 .rintro w ⟨_,_,_,_⟩
  go_simp
  try with_reducible rfl
 simp only[Vet,Vai,Vam,Van];refine wtk 4 ⟨some 95,.nilCheck (.tmp 94),0, "match.go:25",#[⟨3,.data⟩,⟨1,.guard⟩],some (1,true)⟩ (v:= ?_) (.inl ⟨by rfl,?_⟩) ?_
 rotate_left
 .rintro w ⟨_,_,_,_⟩
  go_simp
  try with_reducible rfl
 simp only[Vet,Vai,Vam,Van];refine wtk 5 ⟨some 96,.fieldAddr 233 (.tmp 95) 1,0, "match.go:25",#[⟨4,.data⟩,⟨1,.guard⟩],some (1,true)⟩ (v:= ?_) (.inl ⟨by rfl,?_⟩) ?_
 rotate_left
 .rintro w ⟨_,_,_,_⟩
  go_simp
  try with_reducible rfl
 simp only[Vet,Vai,Vam,Van];refine wtk 6 ⟨some 97,.load 156 (.tmp 96),156, "match.go:25",#[⟨5,.data⟩,⟨1,.guard⟩],some (1,true)⟩ (v:= ?_) (.inl ⟨by rfl,?_⟩) ?_
 rotate_left
 .rintro w ⟨_,_,_,_⟩
  go_simp
  try with_reducible rfl
 simp only[Vet,Vai,Vam,Van];refine wtk 7 ⟨some 98,.move (.tmp 15),230, "match.go:25",#[⟨1,.guard⟩],some (1,true)⟩ (v:= ?_) (.inl ⟨by rfl,?_⟩) ?_
 rotate_left
 .rintro w ⟨_,_,_,_⟩
  go_simp
  try with_reducible rfl
 simp only[Vet,Vai,Vam,Van];refine wtk 8 ⟨some 99,.nilCheck (.tmp 98),0, "match.go:25",#[⟨7,.data⟩,⟨1,.guard⟩],some (1,true)⟩ (v:= ?_) (.inl ⟨by rfl,?_⟩) ?_
 rotate_left
 .rintro w ⟨_,_,_,_⟩
  go_simp
  try with_reducible rfl
 simp only[Vet,Vai,Vam,Van];refine wtk 9 ⟨some 100,.fieldAddr 233 (.tmp 99) 1,0, "match.go:25",#[⟨8,.data⟩,⟨1,.guard⟩],some (1,true)⟩ (v:= ?_) (.inl ⟨by rfl,?_⟩) ?_
 rotate_left
 .rintro w ⟨_,_,_,_⟩
  go_simp
  try with_reducible rfl
 simp only[Vet,Vai,Vam,Van];refine wtk 10 ⟨some 101,.load 156 (.tmp 100),156, "match.go:25",#[⟨9,.data⟩,⟨1,.guard⟩],some (1,true)⟩ (v:= ?_) (.inl ⟨by rfl,?_⟩) ?_
 rotate_left
 .rintro w ⟨_,_,_,_⟩
  go_simp
  try with_reducible rfl
 simp only[Vet,Vai,Vam,Van];refine wpAnyH_ready (rs:= [11]) (by kernel_rfl) (by simp) ?_
 refine AllReadyH.cons (o:=⟨some 102,.call {callee:= .value (.func 86),args:= #[.tmp 93,.tmp 97,.tmp 101],argTypes:= #[163,156,156]},4, "match.go:25",#[⟨2,.data⟩,⟨6,.data⟩,⟨10,.data⟩,⟨1,.chain⟩,⟨1,.guard⟩],some (1,true)⟩) rfl (fun K O=> ?_) AllReadyH.nil
 go_simp
 refine Vac U.out ?_
 rintro e w1 ⟨rfl,hR,T,j2,V,W⟩;refine O.out _ _ ⟨T,j2,V,W⟩ (fun af=> ?_)
 clear O K Z
 try simp only[Vet,Vai,Vam,Van]
 refine wtk 12 ⟨some 103,.pick (.tmp 92) (.tmp 102) (.const (.bool false)),4, "match.go:25",#[⟨1,.data⟩,⟨11,.data⟩],none⟩ (v:= ?_) (.inl ⟨by rfl,?_⟩) ?_
 rotate_left
 .rintro w ⟨_,_,_,_⟩
  go_simp
  try with_reducible rfl
 simp only[Vet,Vai,Vam,Van];refine wtk 13 ⟨some 104,.move (.tmp 103),4, "match.go:25",#[⟨12,.data⟩,⟨11,.chain⟩],none⟩ (v:= ?_) (.inl ⟨by rfl,?_⟩) ?_
 rotate_left
 .rintro w ⟨_,_,_,_⟩
  go_simp
  try with_reducible rfl
 simp only[Vet,Vai,Vam,Van];refine wtk 14 ⟨some 105,.move (.tmp 0),163, "match.go:25",#[⟨13,.guard⟩],some (13,true)⟩ (.inr ⟨by rfl,rfl⟩) ?_
 simp only[Vet,Vai,Vam,Van];refine wtk 15 ⟨some 106,.move (.tmp 14),230, "match.go:25",#[⟨13,.guard⟩],some (13,true)⟩ (.inr ⟨by rfl,rfl⟩) ?_
 simp only[Vet,Vai,Vam,Van];refine wtk 16 ⟨some 107,.nilCheck (.tmp 106),0, "match.go:25",#[⟨15,.data⟩,⟨13,.guard⟩],some (13,true)⟩ (.inr ⟨by rfl,rfl⟩) ?_
 simp only[Vet,Vai,Vam,Van];refine wtk 17 ⟨some 108,.fieldAddr 233 (.tmp 107) 2,0, "match.go:25",#[⟨16,.data⟩,⟨13,.guard⟩],some (13,true)⟩ (.inr ⟨by rfl,rfl⟩) ?_
 simp only[Vet,Vai,Vam,Van];refine wtk 18 ⟨some 109,.load 156 (.tmp 108),156, "match.go:25",#[⟨17,.data⟩,⟨13,.guard⟩],some (13,true)⟩ (.inr ⟨by rfl,rfl⟩) ?_
 simp only[Vet,Vai,Vam,Van];refine wtk 19 ⟨some 110,.move (.tmp 15),230, "match.go:25",#[⟨13,.guard⟩],some (13,true)⟩ (.inr ⟨by rfl,rfl⟩) ?_
 simp only[Vet,Vai,Vam,Van];refine wtk 20 ⟨some 111,.nilCheck (.tmp 110),0, "match.go:25",#[⟨19,.data⟩,⟨13,.guard⟩],some (13,true)⟩ (.inr ⟨by rfl,rfl⟩) ?_
 simp only[Vet,Vai,Vam,Van];refine wtk 21 ⟨some 112,.fieldAddr 233 (.tmp 111) 2,0, "match.go:25",#[⟨20,.data⟩,⟨13,.guard⟩],some (13,true)⟩ (.inr ⟨by rfl,rfl⟩) ?_
 simp only[Vet,Vai,Vam,Van];refine wtk 22 ⟨some 113,.load 156 (.tmp 112),156, "match.go:25",#[⟨21,.data⟩,⟨13,.guard⟩],some (13,true)⟩ (.inr ⟨by rfl,rfl⟩) ?_
 simp only[Vet,Vai,Vam,Van];refine wtk 23 ⟨some 114,.call {callee:= .value (.func 86),args:= #[.tmp 105,.tmp 109,.tmp 113],argTypes:= #[163,156,156]},4, "match.go:25",#[⟨14,.data⟩,⟨18,.data⟩,⟨22,.data⟩,⟨13,.chain⟩,⟨13,.guard⟩],some (13,true)⟩ (.inr ⟨by rfl,rfl⟩) ?_
 simp only[Vet,Vai,Vam,Van];refine wtk 24 ⟨some 115,.pick (.tmp 104) (.tmp 114) (.const (.bool false)),4, "match.go:25",#[⟨13,.data⟩,⟨23,.data⟩],none⟩ (v:= ?_) (.inl ⟨by rfl,?_⟩) ?_
 rotate_left
 .rintro w ⟨_,_,_,_⟩
  go_simp
  try with_reducible rfl
 simp only[Vet,Vai,Vam,Van];refine wtk 25 ⟨some 6,.assign (.tmp 115),4, "match.go:25",#[⟨24,.data⟩,⟨23,.chain⟩,⟨0,.phase⟩,⟨1,.phase⟩,⟨2,.phase⟩,⟨3,.phase⟩,⟨4,.phase⟩,⟨5,.phase⟩,⟨6,.phase⟩,⟨7,.phase⟩,⟨8,.phase⟩,⟨9,.phase⟩,⟨10,.phase⟩,⟨11,.phase⟩,⟨12,.phase⟩,⟨13,.phase⟩,⟨14,.phase⟩,⟨15,.phase⟩,⟨16,.phase⟩,⟨17,.phase⟩,⟨18,.phase⟩,⟨19,.phase⟩,⟨20,.phase⟩,⟨21,.phase⟩,⟨22,.phase⟩,⟨23,.phase⟩,⟨24,.phase⟩],none⟩ (v:= ?_) (.inl ⟨by rfl,?_⟩) ?_
 rotate_left
 .rintro w ⟨_,_,_,_⟩
  go_simp
  try with_reducible rfl
 simp only[Vet,Vai,Vam,Van];refine wpAnyH_done (by kernel_rfl) ?_ _
 go_wp2
 go_ret
 exact⟨rfl,hR⟩
theorem Jmp(w:World)(O b c:Nat)(d L G I:TypeId)(E h J D:Value)(R:World->Prop)(Q:Bool->World->Prop)(ae:w.cell? ⟨b,1,none⟩=some (.iface d E))(ac:w.cell? ⟨b,2,none⟩=some (.iface L h))(af:w.cell? ⟨c,1,none⟩=some (.iface G J))(aa:w.cell? ⟨c,2,none⟩=some (.iface I D))
 (U:Hid (Calls prog 86 #[.map (some O),.iface d E,.iface G J] w.drew fun e w'=>e= .returned (.bool true)/\Hid (R w')/\w'.cell? ⟨b,1,none⟩=some (.iface d E)/\w'.cell? ⟨b,2,none⟩=some (.iface L h)/\w'.cell? ⟨c,1,none⟩=some (.iface G J)/\w'.cell? ⟨c,2,none⟩=some (.iface I D)))
 (T:Hid (∀M,Hid (R M)->Calls prog 86 #[.map (some O),.iface L h,.iface I D] M fun e w'=>∃r,e= .returned (.bool r)/\Hid (Q r w')/\w'.cell? ⟨b,1,none⟩=some (.iface d E)/\w'.cell? ⟨b,2,none⟩=some (.iface L h)/\w'.cell? ⟨c,1,none⟩=some (.iface G J)/\w'.cell? ⟨c,2,none⟩=some (.iface I D))):
  Calls prog 86 #[.map (some O),.iface 230 (.pointer (some ⟨b,0,none⟩)),.iface 230 (.pointer (some ⟨c,0,none⟩))] w fun e w'=>∃r,e= .returned (.bool r)/\Hid (Q r w'):=by
 have t0:=IbL (.pointer (some ⟨b,0,none⟩)) w;have t1:=IbJ (.pointer (some ⟨b,0,none⟩)) w;have Z:=IbK (.pointer (some ⟨b,0,none⟩)) w;have t3:=IbH (.pointer (some ⟨b,0,none⟩)) w;have tc:=IbH (.pointer (some ⟨c,0,none⟩)) w
 go_enter Vcd,Vb2
 go_wp2_with fail
 go_region_held3 (fun w'=>w'.cell? ⟨b,1,none⟩=some (.iface d E)/\w'.cell? ⟨b,2,none⟩=some (.iface L h)/\w'.cell? ⟨c,1,none⟩=some (.iface G J)/\w'.cell? ⟨c,2,none⟩=some (.iface I D)) (go_keep) (first|(go_at_call 86;with_reducible refine Vac U.out ?_;rintro e M ⟨rfl,W,j1,j2,j3,j4⟩)|(go_at_call 86;with_reducible refine Vac (T.out M W) ?_;rintro e w2 ⟨r,rfl,V,Y,k2,k3,k4⟩))
 all_goals
  go_wp2
  go_ret
  exact⟨r,rfl,V⟩
end Go.Proofs.YtleenphlgbklmaaGreatDoor
