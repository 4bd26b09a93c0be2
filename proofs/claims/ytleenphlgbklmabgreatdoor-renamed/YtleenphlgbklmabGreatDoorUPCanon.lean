import Derived.Test.YtleenphlgbklmabGreatDoorUPPTy
import Derived.Test.YtleenphlgbklmabGreatDoorUTxM
import Derived.Test.YtleenphlgbklmabGreatDoorUPRead
import Derived.Test.YtleenphlgbklmabGreatDoorUTGood
set_option linter.unusedVariables false
set_option linter.unusedSimpArgs false
namespace Go.Proofs.YtleenphlgbklmabGreatDoor
open Go.RowKit

/-- behind parseType: what its ways out are. -/
def TPost (A : Nat → Addr) (w : World) (F : Int) (t : Ty) (names : List ByteArray) (e : Ending) (w' : World) : Prop := Kept w w' ∧
  ((∃ b l : Nat, F = l ∧ e = .returned (.tuple #[.nilIface, .iface 83 (.pointer (some ⟨b, 0, none⟩))]) ∧ w'.heap[b]? = some (.cells #[.int .i64 l] 94 (0, 0))) ∨
  (F < 0 ∧ 120 < sz t ∧ e = .returned (.tuple #[.nilIface, .iface 342 (.pointer (some (A 4)))])) ∨
  (F < 0 ∧ sz t ≤ 120 ∧ ∃ v vb, e = .returned (.tuple #[v, .nilIface]) ∧ PTyR w' vb w.heap.size w'.heap.size t v ∧ (∀ c, c ∈ vb → VBlk w' c ∧ w.heap.size ≤ c) ∧ vb.Nodup ∧ NB w' vb names))
/-- at no token the fault stays. -/
theorem tstk (L : List Tk) (n : Nat) (t : Ty) (names : List ByteArray) (K : Nat) (B : Int) (hM : arrowM L n [] 0 (-1) = some (t, names, K, B)) (h0 : (tkAt L 0).is = { data := #[110, 111, 110, 101] }) : needB L { data := #[101, 110, 100] } K B = (tkAt L 0).loc := by
  have e := (tread_none L n [] 0 (-1) (by omega) h0).2 _ _ _ _ hM
  rw [e]
  exact needB_geT (by omega)
theorem ptype_any {A : Nat → Addr} {s : ByteArray} {L : List Tk} (hE : PEnv s tyWords L) (w : World) (hG : Glb A w) (n : Nat) (t : Ty) (names : List ByteArray) (K : Nat) (B : Int) (hM : arrowM L n [] 0 (-1) = some (t, names, K, B)) :
    Calls Tryz.prog 35 #[.string s] w (TPost A w (needB L { data := #[101, 110, 100] } K B) t names) := by
  by_cases h0 : (tkAt L 0).is = { data := #[110, 111, 110, 101] }
  · obtain ⟨hlp, hl0⟩ := lexT0 hE
    have hT := tk_none hE.kw hE.eq 0 hlp h0
    rw [hl0] at hT
    have hn : needB L { data := #[101, 110, 100] } K B = (run blI s 0 : Nat) := by rw [tstk L n t names K B hM h0, hl0]
    have HN : Hid _ := (pnew_none s ((w.alloc (.cells #[.nilIface] 77)).alloc (.cells #[.nilIface] 56)) hE.sz hT).mono (R' := fun e w' => ∃ T z, e = thrown (.iface T z) ∧ (fun T z w2 => ∃ b : Nat, T = 83 ∧ z = .pointer (some ⟨b, 0, none⟩) ∧ w2.heap[b]? = some (.cells #[.int .i64 (run blI s 0 : Nat)] 94 (0, 0)) ∧ w.heap.size + 2 ≤ b) T z w' ∧ Kept ((w.alloc (.cells #[.nilIface] 77)).alloc (.cells #[.nilIface] 56)) w') (fun e w' ⟨b, h1, h2, h3, h4⟩ => ⟨_, _, h1, ⟨b, rfl, rfl, h2, by simpa using h3⟩, h4⟩)
    refine (ppt_throw _ s w HN).mono ?_
    rintro e w' ⟨T, z, w2, rfl, ⟨b, rfl, rfl, hb, hbb⟩, hK, hX⟩
    exact ⟨hK, .inl ⟨b, _, hn, rfl, hX b _ hbb hb⟩⟩
  · exact pt_main hE w hG n t names K B hM h0 _ (fun b l w' hK hn hb => ⟨hK, .inl ⟨b, l, hn, rfl, hb⟩⟩) (fun w' hK h1 h2 => ⟨hK, .inr (.inl ⟨h1, h2, rfl⟩)⟩) (fun v vb w' hK h1 h2 hx hv hi hn => ⟨hK, .inr (.inr ⟨h1, h2, v, vb, rfl, hx, hv, hi, hn⟩)⟩)
theorem ptype_long {A : Nat → Addr} (s : ByteArray) (w : World) (hG : Glb A w) (h : 300 < s.size) (hm : s.size ≤ 9223372036854775807) :
    Calls Tryz.prog 35 #[.string s] w fun e w' => e = .returned (.tuple #[.nilIface, .iface 342 (.pointer (some (A 0)))]) ∧ Kept w w' := by
  have hk1 : Kept w ((w.alloc (.cells #[.nilIface] 77)).alloc (.cells #[.nilIface] 56)) := (Kept.alloc _ _).trans (Kept.alloc _ _)
  have HN : Hid _ := (pnew_long s _ (hG.kept hk1) h hm).mono (R' := fun e w' => ∃ T z, e = thrown (.iface T z) ∧ (fun T z _ => T = 342 ∧ z = Value.pointer (some (A 0))) T z w' ∧ Kept ((w.alloc (.cells #[.nilIface] 77)).alloc (.cells #[.nilIface] 56)) w') (fun e w' ⟨h1, h2⟩ => ⟨_, _, h1, ⟨rfl, rfl⟩, h2⟩)
  refine (ppt_throw (fun T z _ => T = 342 ∧ z = Value.pointer (some (A 0))) s w HN).mono ?_
  rintro e w' ⟨T, z, w2, rfl, ⟨rfl, rfl⟩, hK, _⟩
  exact ⟨rfl, hK⟩
set_option maxRecDepth 20000 in
theorem canon_err (s : ByteArray) (w : World) (R : TypeId → Value → World → Prop) (HP : Hid (Calls Tryz.prog 35 #[.string s] w fun e w' => ∃ T z, e = .returned (.tuple #[.nilIface, .iface T z]) ∧ Hid (R T z w'))) :
    Calls Tryz.prog 21 #[.string s] w fun e w' => ∃ T z, e = .returned (.tuple #[.string { data := #[] }, .iface T z]) ∧ Hid (R T z w') := by
  go_enter Tryz.func21, Tryz.ntmps21
  go_wp2_with fail
  refine Calls.mono HP.out ?_
  rintro e w1 ⟨T, z, rfl, HR⟩
  clear HP
  go_wp2
  exact bodyPost_ret (v := .tuple #[.string { data := #[] }, .iface T z]) (by simp [results, Tryz.results21, go_sem]) rfl ⟨T, z, rfl, HR⟩
set_option maxRecDepth 20000 in
theorem Kt.keptFrom {ad : List Nat} {S : Nat → Prop} {w a b : World} (h0 : Kept w a) (h : Kt ad S a b) (hS : ∀ q, q < w.heap.size → ¬ S q) (hA : ∀ q, q ∈ ad → w.heap.size ≤ q) : Kept w b := ⟨h.os.trans h0.os, h.output.trans h0.output, Nat.le_trans h0.size h.size, fun q hq => by
  have e : w.heap[q]? = some w.heap[q] := by simp
  rw [e]
  exact h.blk0 q _ ((h0.block q hq).trans e) (hS q hq) (fun _ z => by have := hA q z; omega)⟩
set_option maxRecDepth 20000 in
theorem canon_ok (s : ByteArray) (w : World) (t : Ty) (hs : sz t ≤ 120) (HP : Hid (Calls Tryz.prog 35 #[.string s] w fun e w' => ∃ v ad σ r, e = .returned (.tuple #[v, .nilIface]) ∧ SX w' ad σ ∧ RV ad r v ∧ Dn σ r t ∧ (∀ c, c ∈ ad → w.heap.size ≤ c) ∧ Kept w w')) :
    Calls Tryz.prog 21 #[.string s] w fun e w' => e = .returned (.tuple #[.string (canT t), .nilIface]) ∧ Kept w w' := by
  go_enter Tryz.func21, Tryz.ntmps21
  go_wp2_with fail
  refine Calls.mono HP.out ?_
  rintro e w1 ⟨v, ad, σ, r, rfl, hx, hv, hd, hA, hk1⟩
  have HN : Hid _ := pnio_any w1
  have HS : Hid (∀ w2 nb mb, w2.heap[nb]? = some (.cells #[.map (some mb)] 123 (0, 0)) → NM w2 mb [] → Kp (fun _ => False) w1 w2 → Calls Tryz.prog 36 #[v, .func (.func 57) #[] #[.pointer (some ⟨nb, 0, none⟩)]] w2 fun e w' => e = .returned (.string (canT t)) ∧ SX w' ad σ ∧ Kt ad (· = mb) w2 w') := fun w2 nb mb h1 h2 h3 => show_num w2 nb mb ad σ r t v (hx.keep (fun _ _ _ ho => h3.blk ho id)) hv hd (by omega) h1 (by have := h2.mp; simpa [nFrom] using this)
  obtain ⟨T, u, rfl⟩ := hv.iface
  have HK1 : Hid _ := hk1
  clear HP hx hv hd hk1
  go_wp2_with fail
  refine Calls.mono HN.out ?_
  rintro e w2 ⟨nb, mb, rfl, hb2, hm2, hk2, hmb⟩
  have HS2 : Hid _ := HS.out w2 nb mb hb2 hm2 hk2
  clear HN HS hb2 hm2
  go_wp2_with fail
  refine Calls.mono HS2.out ?_
  rintro e w3 ⟨rfl, _, hk3⟩
  have HKF : Hid (Kept w w3) := Kt.keptFrom (HK1.out.trans (Kept.of0 hk2)) hk3 (fun q hq z => by
    have z : q = mb := z
    have := HK1.out.size
    omega) hA
  clear HS2 hk3 hk2 HK1
  go_wp2
  exact bodyPost_ret (v := .tuple #[.string (canT t), .nilIface]) (by simp [results, Tryz.results21, go_sem]) rfl ⟨rfl, HKF.out⟩
set_option maxRecDepth 20000 in
set_option maxHeartbeats 2000000 in
theorem pl_canon (s : ByteArray) (w : World) (R : ByteArray → Int → Int → Prop) (HP : Hid (Calls Tryz.prog 21 #[.string s] (w.alloc (.cells #[.int .i64 0, .int .i64 0, .string { data := #[] }, .int .i64 0, .int .i64 0] 23)) fun e w' => ∃ t er what loc, e = .returned (.tuple #[.string t, er]) ∧ Kept (w.alloc (.cells #[.int .i64 0, .int .i64 0, .string { data := #[] }, .int .i64 0, .int .i64 0] 23)) w' ∧ Hid (Calls Tryz.prog 22 #[er] w' fun e w'' => e = .returned (faultVal what loc { data := #[] }) ∧ Kept w' w'') ∧ R t what loc)) :
    Calls Tryz.prog 8 #[.string s] w fun e w' => ∃ t what loc, e = .returned (.tuple #[.string t, faultVal what loc { data := #[] }]) ∧ R t what loc ∧ Kept w w' := by
  have hk0 : Kept w (w.alloc (.cells #[.int .i64 0, .int .i64 0, .string { data := #[] }, .int .i64 0, .int .i64 0] 23)) := Kept.alloc _ _
  have hb0 : (w.alloc (.cells #[.int .i64 0, .int .i64 0, .string { data := #[] }, .int .i64 0, .int .i64 0] 23)).heap[w.heap.size]? = some (.cells #[.int .i64 0, .int .i64 0, .string { data := #[] }, .int .i64 0, .int .i64 0] 23 (0, 0)) := heap_alloc_new _ _
  go_enter Tryz.func8, Tryz.ntmps8
  go_wp2_with fail
  refine Calls.mono HP.out ?_
  rintro e w1 ⟨t, er, what, loc, rfl, hk1, HF, hR⟩
  have hb1 := hk1.blk hb0
  have HR : Hid _ := hR
  clear HP hR
  go_wp2_with fail
  refine Calls.mono HF.out ?_
  rintro e w2 ⟨rfl, hk2⟩
  have hb2 := hk2.blk hb1
  have hK := (hk0.trans hk1).trans hk2
  clear HF
  have c0 : w2.cell? ⟨w.heap.size, 0, none⟩ = some (.int .i64 0) := by simp [World.cell?, hb2]
  have c1 : w2.cell? ⟨w.heap.size, 1, none⟩ = some (.int .i64 0) := by simp [World.cell?, hb2]
  have c2 : w2.cell? ⟨w.heap.size, 2, none⟩ = some (.string { data := #[] }) := by simp [World.cell?, hb2]
  have c3 : w2.cell? ⟨w.heap.size, 3, none⟩ = some (.int .i64 0) := by simp [World.cell?, hb2]
  have c4 : w2.cell? ⟨w.heap.size, 4, none⟩ = some (.int .i64 0) := by simp [World.cell?, hb2]
  have f0 : ∀ j, w2.frozen? ⟨w.heap.size, j, none⟩ = false := fun j => by simp [World.frozen?, hb2]
  unfold faultVal
  go_wp2_with fail
  obtain ⟨w5, hw5⟩ : ∃ w5, w5 = ((((w2.setCell ⟨w.heap.size, 0, none⟩ (.int .i64 what)).setCell ⟨w.heap.size, 1, none⟩ (.int .i64 loc)).setCell ⟨w.heap.size, 2, none⟩ (.string { data := #[] })).setCell ⟨w.heap.size, 3, none⟩ (.int .i64 0)).setCell ⟨w.heap.size, 4, none⟩ (.int .i64 0) := ⟨_, rfl⟩
  have hF : w5.heap[w.heap.size]? = some (.cells #[.int .i64 what, .int .i64 loc, .string { data := #[] }, .int .i64 0, .int .i64 0] 23 (0, 0)) := by
    rw [hw5]
    simp [World.setCell, hb2, Array.getElem?_modify]
  have hKF : Kept w w5 := by
    rw [hw5]
    refine ⟨hK.1, hK.2, by simpa using hK.3, fun q hq => ?_⟩
    have e : ∀ (W : World) (j : Nat) (v : Value), (W.setCell ⟨w.heap.size, j, none⟩ v).heap[q]? = W.heap[q]? := fun W j v => Below.heap_setCell _ _ _ q (by intro z; simp at z; omega)
    exact (e _ _ _).trans ((e _ _ _).trans ((e _ _ _).trans ((e _ _ _).trans ((e _ _ _).trans (hK.4 q hq)))))
  rw [← hw5]
  clear hw5
  have d0 : w5.cell? ⟨w.heap.size, 0, none⟩ = some (.int .i64 what) := by simp [World.cell?, hF]
  have d1 : w5.cell? ⟨w.heap.size, 1, none⟩ = some (.int .i64 loc) := by simp [World.cell?, hF]
  have d2 : w5.cell? ⟨w.heap.size, 2, none⟩ = some (.string { data := #[] }) := by simp [World.cell?, hF]
  have d3 : w5.cell? ⟨w.heap.size, 3, none⟩ = some (.int .i64 0) := by simp [World.cell?, hF]
  have d4 : w5.cell? ⟨w.heap.size, 4, none⟩ = some (.int .i64 0) := by simp [World.cell?, hF]
  exact bodyPost_ret (v := .tuple #[.string t, faultVal what loc { data := #[] }]) (by simp [results, Tryz.results8, go_sem, faultVal, d0, d1, d2, d3, d4]) rfl ⟨t, what, loc, rfl, HR.out, hKF⟩
/-- plain.Canon, against the document's reader. -/
theorem plcanon_any {A : Nat → Addr} {s : ByteArray} {L : List Tk} (hE : PEnv s tyWords L) (w : World) (hG : Glb A w) (n : Nat) (t : Ty) (names : List ByteArray) (K : Nat) (B : Int) (hM : arrowM L n [] 0 (-1) = some (t, names, K, B)) :
    Calls Tryz.prog 8 #[.string s] w fun e w' => Kept w w' ∧
      (0 ≤ needB L { data := #[101, 110, 100] } K B → e = .returned (.tuple #[.string { data := #[] }, faultVal 2 (needB L { data := #[101, 110, 100] } K B) { data := #[] }])) ∧
      (needB L { data := #[101, 110, 100] } K B < 0 → 120 < sz t → e = .returned (.tuple #[.string { data := #[] }, faultVal 8 0 { data := #[] }])) ∧
      (needB L { data := #[101, 110, 100] } K B < 0 → sz t ≤ 120 → e = .returned (.tuple #[.string (canT t), faultVal 0 0 { data := #[] }])) := by
  have hk0 : Kept w (w.alloc (.cells #[.int .i64 0, .int .i64 0, .string { data := #[] }, .int .i64 0, .int .i64 0] 23)) := Kept.alloc _ _
  have hG0 := hG.kept hk0
  generalize hW : w.alloc (.cells #[.int .i64 0, .int .i64 0, .string { data := #[] }, .int .i64 0, .int .i64 0] 23) = W at *
  have HP := ptype_any hE W hG0 n t names K B hM
  have key : Calls Tryz.prog 21 #[.string s] W fun e w' => ∃ tx er what loc, e = .returned (.tuple #[.string tx, er]) ∧ Kept W w' ∧ Hid (Calls Tryz.prog 22 #[er] w' fun e w'' => e = .returned (faultVal what loc { data := #[] }) ∧ Kept w' w'') ∧ ((0 ≤ needB L { data := #[101, 110, 100] } K B → tx = { data := #[] } ∧ what = 2 ∧ loc = needB L { data := #[101, 110, 100] } K B) ∧ (needB L { data := #[101, 110, 100] } K B < 0 → 120 < sz t → tx = { data := #[] } ∧ what = 8 ∧ loc = 0) ∧ (needB L { data := #[101, 110, 100] } K B < 0 → sz t ≤ 120 → tx = canT t ∧ what = 0 ∧ loc = 0)) := by
    by_cases hF : 0 ≤ needB L { data := #[101, 110, 100] } K B
    · have h1 := canon_err s W (fun T z w' => Kept W w' ∧ ∃ b l : Nat, needB L { data := #[101, 110, 100] } K B = l ∧ T = 83 ∧ z = .pointer (some ⟨b, 0, none⟩) ∧ w'.heap[b]? = some (.cells #[.int .i64 l] 94 (0, 0))) (HP.mono (fun e w' hp => by
        rcases hp.2 with ⟨b, l, e1, e2, e3⟩ | ⟨e1, _⟩ | ⟨e1, _⟩
        · exact ⟨_, _, e2, hp.1, b, l, e1, rfl, rfl, e3⟩
        · omega
        · omega))
      refine h1.mono ?_
      rintro e w' ⟨T, z, rfl, hR⟩
      obtain ⟨hK, b, l, e1, rfl, rfl, e3⟩ := hR.out
      refine ⟨{ data := #[] }, _, 2, l, rfl, hK, ?_, fun _ => ⟨rfl, rfl, e1.symm⟩, fun q => absurd hF (by omega), fun q => absurd hF (by omega)⟩
      exact (fault_syn w' (hG0.kept hK) ⟨b, 0, none⟩ l (by simp [World.cell?, e3])).mono (fun e w'' ⟨a1, a2⟩ => ⟨a1, Kept.below a2⟩)
    · by_cases hd : 120 < sz t
      · have h1 := canon_err s W (fun T z w' => Kept W w' ∧ T = 342 ∧ z = .pointer (some (A 4))) (HP.mono (fun e w' hp => by
          rcases hp.2 with ⟨b, l, e1, _⟩ | ⟨_, _, e2⟩ | ⟨_, e2, _⟩
          · omega
          · exact ⟨_, _, e2, hp.1, rfl, rfl⟩
          · omega))
        refine h1.mono ?_
        rintro e w' ⟨T, z, rfl, hR⟩
        obtain ⟨hK, rfl, rfl⟩ := hR.out
        exact ⟨{ data := #[] }, _, 8, 0, rfl, hK, fault_sen w' (hG0.kept hK) 4 (by omega), fun q => absurd q hF, fun _ _ => ⟨rfl, rfl, rfl⟩, fun _ q => absurd q (by omega)⟩
      · have h1 := canon_ok s W t (by omega) (HP.mono (fun e w' hp => by
          rcases hp.2 with ⟨b, l, e1, _⟩ | ⟨_, e2, _⟩ | ⟨_, _, v, vb, e2, e3, e4, e5, e6⟩
          · omega
          · omega
          · obtain ⟨ad, g1, g2, g3, g4⟩ := read_store e3 e6 e5 (fun c hc => (e4 c hc).2)
            exact ⟨v, ad, _, _, e2, g2, g3, g4, g1, hp.1⟩))
        refine h1.mono ?_
        rintro e w' ⟨rfl, hK⟩
        exact ⟨canT t, _, 0, 0, rfl, hK, (fault_nil w').mono (fun e w'' ⟨a1, a2⟩ => ⟨a1, Kept.below a2⟩), fun q => absurd q hF, fun _ q => absurd q hd, fun _ _ => ⟨rfl, rfl, rfl⟩⟩
  have := pl_canon s w (fun tx what loc => (0 ≤ needB L { data := #[101, 110, 100] } K B → tx = { data := #[] } ∧ what = 2 ∧ loc = needB L { data := #[101, 110, 100] } K B) ∧ (needB L { data := #[101, 110, 100] } K B < 0 → 120 < sz t → tx = { data := #[] } ∧ what = 8 ∧ loc = 0) ∧ (needB L { data := #[101, 110, 100] } K B < 0 → sz t ≤ 120 → tx = canT t ∧ what = 0 ∧ loc = 0)) (by rw [hW]; exact key)
  refine this.mono ?_
  rintro e w' ⟨tx, what, loc, rfl, ⟨h1, h2, h3⟩, hK⟩
  refine ⟨hK, fun q => ?_, fun q q2 => ?_, fun q q2 => ?_⟩
  · obtain ⟨rfl, rfl, rfl⟩ := h1 q; rfl
  · obtain ⟨rfl, rfl, rfl⟩ := h2 q q2; rfl
  · obtain ⟨rfl, rfl, rfl⟩ := h3 q q2; rfl
theorem plcanon_long {A : Nat → Addr} (s : ByteArray) (w : World) (hG : Glb A w) (h : 300 < s.size) (hm : s.size ≤ 9223372036854775807) :
    Calls Tryz.prog 8 #[.string s] w fun e w' => e = .returned (.tuple #[.string { data := #[] }, faultVal 1 0 { data := #[] }]) ∧ Kept w w' := by
  have hk0 : Kept w (w.alloc (.cells #[.int .i64 0, .int .i64 0, .string { data := #[] }, .int .i64 0, .int .i64 0] 23)) := Kept.alloc _ _
  have hG0 := hG.kept hk0
  generalize hW : w.alloc (.cells #[.int .i64 0, .int .i64 0, .string { data := #[] }, .int .i64 0, .int .i64 0] 23) = W at *
  have h1 := canon_err s W (fun T z w' => Kept W w' ∧ T = 342 ∧ z = .pointer (some (A 0))) ((ptype_long s W hG0 h hm).mono (fun e w' ⟨e1, e2⟩ => ⟨_, _, e1, e2, rfl, rfl⟩))
  have key : Calls Tryz.prog 21 #[.string s] W fun e w' => ∃ tx er what loc, e = .returned (.tuple #[.string tx, er]) ∧ Kept W w' ∧ Hid (Calls Tryz.prog 22 #[er] w' fun e w'' => e = .returned (faultVal what loc { data := #[] }) ∧ Kept w' w'') ∧ (tx = { data := #[] } ∧ what = 1 ∧ loc = 0) := by
    refine h1.mono ?_
    rintro e w' ⟨T, z, rfl, hR⟩
    obtain ⟨hK, rfl, rfl⟩ := hR.out
    exact ⟨{ data := #[] }, _, 1, 0, rfl, hK, fault_sen w' (hG0.kept hK) 0 (by omega), rfl, rfl, rfl⟩
  refine (pl_canon s w (fun tx what loc => tx = { data := #[] } ∧ what = 1 ∧ loc = 0) (by rw [hW]; exact key)).mono ?_
  rintro e w' ⟨tx, what, loc, rfl, ⟨rfl, rfl, rfl⟩, hK⟩
  exact ⟨rfl, hK⟩
end Go.Proofs.YtleenphlgbklmabGreatDoor
