import Derived.Test.YtnhmjndjclpnlaaGreatDoorRPTyAll
import Derived.Test.YtnhmjndjclpnlaaGreatDoorRPRoom
import Derived.Test.YtnhmjndjclpnlaaGreatDoorRPTkEnd
set_option linter.unusedVariables false
set_option linter.unusedSimpArgs false
namespace Go.Proofs.YtnhmjndjclpnlaaGreatDoor
open Go.RowKit
set_option maxRecDepth 20000 in
theorem ppt_throw (R : TypeId → Value → World → Prop) (s : ByteArray) (w : World)
    (HN : Hid (Calls Tryz.prog 87 #[.string s] ((w.alloc (.cells #[.nilIface] 140)).alloc (.cells #[.nilIface] 64)) fun e w' => ∃ T z, e = thrown (.iface T z) ∧ R T z w' ∧ Kept ((w.alloc (.cells #[.nilIface] 140)).alloc (.cells #[.nilIface] 64)) w')) :
    Calls Tryz.prog 71 #[.string s] w fun e w' => ∃ T z w2, e = .returned (.tuple #[.nilIface, .iface T z]) ∧ R T z w2 ∧ Kept w w' ∧ ∀ k o, w.heap.size + 2 ≤ k → w2.heap[k]? = some o → w'.heap[k]? = some o := by
  have hk1 : Kept w ((w.alloc (.cells #[.nilIface] 140)).alloc (.cells #[.nilIface] 64)) := (Kept.alloc _ _).trans (Kept.alloc _ _)
  have hp0 : ((w.alloc (.cells #[.nilIface] 140)).alloc (.cells #[.nilIface] 64)).heap[w.heap.size]? = some (.cells #[.nilIface] 140 (0, 0)) := (Kept.alloc _ _).blk (heap_alloc_new _ _)
  have hq0 : ((w.alloc (.cells #[.nilIface] 140)).alloc (.cells #[.nilIface] 64)).heap[w.heap.size + 1]? = some (.cells #[.nilIface] 64 (0, 0)) := by
    have := heap_alloc_new (w.alloc (.cells #[.nilIface] 140)) (.cells #[.nilIface] 64)
    simpa using this
  go_enter_defers Tryz.func71, Tryz.ntmps71
  go_wp2_with fail
  refine Calls.mono HN.out ?_
  rintro e w2 ⟨T, z, rfl, hR, hk2⟩
  have hp2 := hk2.blk hp0
  have hq2 := hk2.blk hq0
  refine leaves_cons (f := 99) (args := #[.pointer (some ⟨w.heap.size, 0, none⟩), .pointer (some ⟨w.heap.size + 1, 0, none⟩)]) (by simp) (by simp [go_sem]) ?_
  refine (catchT_panicking ⟨w.heap.size, 0, none⟩ ⟨w.heap.size + 1, 0, none⟩ .nilIface .nilIface T z [] w2 ?_ ?_ ?_ ?_ ?_).mono ?_
  · simp [World.cell?, hp2]
  · simp [World.frozen?, hp2]
  · simp [World.cell?, hq2]
  · simp [World.frozen?, hq2]
  · simp
  rintro e u' w'' ⟨rfl, rfl, hww⟩
  have hK : Kept w w'' := by
    have k3 : Kept w (w2.alloc (.cells #[.iface T z] 234)) := (hk1.trans hk2).trans (Kept.alloc _ _)
    rw [hww]
    exact ⟨k3.1, k3.2, by simpa using k3.3, fun q hq => (Below.heap_setCell _ _ _ q (by intro z; simp at z; omega)).trans ((Below.heap_setCell _ _ _ q (by intro z; simp at z; omega)).trans (k3.4 q hq))⟩
  have hp3 : (w2.alloc (.cells #[.iface T z] 234)).cell? ⟨w.heap.size, 0, none⟩ = some .nilIface := by simp [World.cell?, (Kept.alloc w2 (.cells #[.iface T z] 234)).blk hp2]
  have hq3 : (w2.alloc (.cells #[.iface T z] 234)).cell? ⟨w.heap.size + 1, 0, none⟩ = some .nilIface := by simp [World.cell?, (Kept.alloc w2 (.cells #[.iface T z] 234)).blk hq2]
  have cp : w''.cell? ⟨w.heap.size, 0, none⟩ = some .nilIface := by
    rw [hww, World.cell?_setCell_other _ _ _ _ (by simp)]
    exact World.cell?_setCell_same _ _ _ hp3
  have cq : w''.cell? ⟨w.heap.size + 1, 0, none⟩ = some (.iface T z) := by
    rw [hww]
    refine World.cell?_setCell_same _ _ _ (u := .nilIface) ?_
    rw [World.cell?_setCell_other _ _ _ _ (by simp)]
    exact hq3
  have hX : ∀ k o, w.heap.size + 2 ≤ k → w2.heap[k]? = some o → w''.heap[k]? = some o := by
    intro k o hk ho
    rw [hww]
    exact (Below.heap_setCell _ _ _ k (by intro z; simp at z; omega)).trans ((Below.heap_setCell _ _ _ k (by intro z; simp at z; omega)).trans ((Kept.alloc w2 _).blk ho))
  clear hww
  simp [Leaves, settle, results, Tryz.results71, go_sem, cp, cq]
  exact ⟨T, z, ⟨rfl, rfl⟩, w2, hR, hK, hX⟩

def tyWords : List ByteArray := [{ data := #[105, 110, 116] }, { data := #[98, 111, 111, 108] }]
theorem tyWordsOk : KwOk tyWords := by
  refine ⟨fun w hw => ?_, fun w hw => ?_⟩
  · simp only [tyWords, List.mem_cons, List.not_mem_nil, or_false] at hw
    rcases hw with rfl | rfl <;> exact ⟨ne_of_list (by decide), ne_of_list (by decide), ne_of_list (by decide), ne_of_list (by decide)⟩
  · simp only [tyWords, List.mem_cons, List.not_mem_nil, or_false] at hw
    rcases hw with rfl | rfl <;> decide
theorem lexT0 {s : ByteArray} {L : List Tk} (hE : PEnv s tyWords L) : 0 < L.length ∧ (tkAt L 0).loc = run blI s 0 := by
  have hk : ∀ w, w ∈ tyWords → w ≠ { data := #[110, 97, 109, 101] } := fun w hw => (tyWordsOk.ne w hw).1
  have hp : 0 < L.length := by rw [hE.eq]; exact toks_pos s tyWords
  refine ⟨hp, ?_⟩
  have h := (toks_next s tyWords hk (s.size + 1) 0 (Nat.zero_le _) 0 (by rw [← hE.eq]; exact hp)).1 rfl
  rw [← hE.eq] at h
  rw [h]
  rfl
theorem Tryz.mkV (w : World) : (Instr.makeMap 190 none).run Tryz.prog w = .ok (.map (some w.heap.size)) (w.alloc (.map #[] 0)) := by kernel_rfl
set_option maxRecDepth 20000 in
set_option maxHeartbeats 1000000 in
theorem pt_main {A : Nat → Addr} {s : ByteArray} {L : List Tk} (hE : PEnv s tyWords L) (w : World) (hG : Glb A w) (n : Nat) (t : Ty) (names : List ByteArray) (K : Nat) (B : Int) (hM : arrowM L n [] 0 (-1) = some (t, names, K, B)) (h0 : (tkAt L 0).is ≠ { data := #[110, 111, 110, 101] }) (R : Ending → World → Prop)
    (hsyn : ∀ (b l : Nat) (w' : World), Kept w w' → needB L { data := #[101, 110, 100] } K B = l → w'.heap[b]? = some (.cells #[.int .i64 l] 129 (0, 0)) → R (.returned (.tuple #[.nilIface, .iface 118 (.pointer (some ⟨b, 0, none⟩))])) w')
    (hbig : ∀ w' : World, Kept w w' → needB L { data := #[101, 110, 100] } K B < 0 → 120 < sz t → R (.returned (.tuple #[.nilIface, .iface 368 (.pointer (some (A 4)))])) w')
    (hok : ∀ (v : Value) (vb : List Nat) (w' : World), Kept w w' → needB L { data := #[101, 110, 100] } K B < 0 → sz t ≤ 120 → PTy w' vb t v → (∀ c, c ∈ vb → VBlk w' c) → vb.Nodup → R (.returned (.tuple #[v, .nilIface])) w') :
    Calls Tryz.prog 71 #[.string s] w R := by
  have hk1 : Kept w ((w.alloc (.cells #[.nilIface] 140)).alloc (.cells #[.nilIface] 64)) := (Kept.alloc _ _).trans (Kept.alloc _ _)
  have hp0 : ((w.alloc (.cells #[.nilIface] 140)).alloc (.cells #[.nilIface] 64)).heap[w.heap.size]? = some (.cells #[.nilIface] 140 (0, 0)) := (Kept.alloc _ _).blk (heap_alloc_new _ _)
  have hq0 : ((w.alloc (.cells #[.nilIface] 140)).alloc (.cells #[.nilIface] 64)).heap[w.heap.size + 1]? = some (.cells #[.nilIface] 64 (0, 0)) := by
    have := heap_alloc_new (w.alloc (.cells #[.nilIface] 140)) (.cells #[.nilIface] 64)
    simpa using this
  have hs1 : ((w.alloc (.cells #[.nilIface] 140)).alloc (.cells #[.nilIface] 64)).heap.size = w.heap.size + 2 := by simp
  obtain ⟨hlp, hl0⟩ := lexT0 hE
  obtain ⟨kd, hT⟩ := tk_tok hE.kw hE.eq 0 hlp h0
  rw [hl0] at hT
  have HN : Hid _ := pnew_some s ((w.alloc (.cells #[.nilIface] 140)).alloc (.cells #[.nilIface] 64)) hE.sz kd _ _ hT
  have HT : Hid _ := hT
  have HSE : Hid _ := (ptref_all s tyWords L hE rfl n).1
  have HM : Hid _ := hM
  have HG : Hid _ := hG
  have HSYN : Hid _ := hsyn
  have HBIG : Hid _ := hbig
  have HOK : Hid _ := hok
  clear hM hG hT hsyn hbig hok
  generalize hW : ((w.alloc (.cells #[.nilIface] 140)).alloc (.cells #[.nilIface] 64)) = W at *
  go_enter_defers Tryz.func71, Tryz.ntmps71
  go_wp2_with fail
  refine Calls.mono HN.out ?_
  rintro e w2 ⟨rfl, hk2, hP2⟩
  have m2 := Tryz.mkV w2
  have hp2 := hk2.blk hp0
  have hq2 := hk2.blk hq0
  rw [hs1] at hP2
  have PA : PAt w2 (w.heap.size + 2) s L 0 := ⟨⟨kd, by rw [hl0]; exact hP2, by rw [hl0]; exact HT.out⟩, hlp, h0⟩
  have hkm : Kept w2 (w2.alloc (.map #[] 0)) := Kept.alloc _ _
  have hkr : Kept (w2.alloc (.map #[] 0)) ((w2.alloc (.map #[] 0)).alloc (.cells #[.pointer (some ⟨w.heap.size + 2, 0, none⟩), .map (some w2.heap.size)] 192)) := Kept.alloc _ _
  have hmp : ((w2.alloc (.map #[] 0)).alloc (.cells #[.pointer (some ⟨w.heap.size + 2, 0, none⟩), .map (some w2.heap.size)] 192)).heap[w2.heap.size]? = some (.map #[] 0) := hkr.blk (heap_alloc_new _ _)
  have hrc : ((w2.alloc (.map #[] 0)).alloc (.cells #[.pointer (some ⟨w.heap.size + 2, 0, none⟩), .map (some w2.heap.size)] 192)).heap[w2.heap.size + 1]? = some (.cells #[.pointer (some ⟨w.heap.size + 2, 0, none⟩), .map (some w2.heap.size)] 192 (0, 0)) := by
    have := heap_alloc_new (w2.alloc (.map #[] 0)) (.cells #[.pointer (some ⟨w.heap.size + 2, 0, none⟩), .map (some w2.heap.size)] 192)
    simpa using this
  have hk23 := hkm.trans hkr
  have hp3 := hk23.blk hp2
  have hq3 := hk23.blk hq2
  have hs2 : w.heap.size + 2 < w2.heap.size := PA.lt'
  have KW3 := (hk1.trans hk2).trans hk23
  have PA3 := PA.kept hk23
  clear HN hP2 PA hkm hkr
  rw [hs1]
  go_wp2_with fail
  generalize hw3 : ((w2.alloc (.map #[] 0)).alloc (.cells #[.pointer (some ⟨w.heap.size + 2, 0, none⟩), .map (some w2.heap.size)] 192)) = w3 at *
  have hV3 : VM w3 w2.heap.size [] [] := ⟨rfl, by simpa [vEs] using hmp, fun j hj => by simp at hj⟩
  have a3 : w3.cell? ⟨w2.heap.size + 1, 0, none⟩ = some (.pointer (some ⟨w.heap.size + 2, 0, none⟩)) := by simp [World.cell?, hrc]
  have HX : Hid _ := HSE.out w3 (w.heap.size + 2) w2.heap.size 0 [] [] t names K B PA3 hV3 (NmOk.nil L) (by omega) HM.out
  have hokN := ((tread_ok L hE.good n).1 _ _ _ _ _ _ _ HM.out hlp (NmOk.nil L))
  refine Calls.mono HX.out ?_
  intro e w4 hres
  clear HX
  by_cases hz : 0 ≤ bz L K B
  · have hor : 0 ≤ B ∨ (tkAt L K).is = { data := #[110, 111, 110, 101] } := by
      by_cases hb : 0 ≤ B
      · exact .inl hb
      · by_cases hn : (tkAt L K).is = { data := #[110, 111, 110, 101] }
        · exact .inr hn
        · rw [bz_ok (by omega) hn] at hz; omega
    obtain ⟨l, hl, b, he, hb4, hb, kq⟩ := hres.thrown hor
    have hbz : bz L K B = l := by
      rcases hl with h1 | ⟨h1, h2, h3⟩
      · rw [h1]; exact bz_ge (by omega)
      · rw [bz_none h1 h2, h3]
    have hn : needB L { data := #[101, 110, 100] } K B = l := (need_bz hz (by decide)).2.trans hbz
    have hp := (kq.block _ (lt_of_block hp3) (by show ¬ _; omega)).trans hp3
    have hq := (kq.block _ (lt_of_block hq3) (by show ¬ _; omega)).trans hq3
    have KW : Kept w w4 := ⟨kq.os.trans KW3.os, kq.output.trans KW3.output, Nat.le_trans KW3.size kq.size, fun q h1 => (kq.block q (Nat.lt_of_lt_of_le h1 KW3.size) (by show ¬ _; omega)).trans (KW3.block q h1)⟩
    have hbb : w.heap.size + 2 ≤ b := by have := lt_of_block hrc; omega
    rw [he]
    clear he hres kq hp3 hq3
    refine leaves_cons (f := 99) (args := #[.pointer (some ⟨w.heap.size, 0, none⟩), .pointer (some ⟨w.heap.size + 1, 0, none⟩)]) (by simp) (by simp [go_sem]) ?_
    refine (catchT_panicking ⟨w.heap.size, 0, none⟩ ⟨w.heap.size + 1, 0, none⟩ .nilIface .nilIface 118 (.pointer (some ⟨b, 0, none⟩)) [] w4 ?_ ?_ ?_ ?_ ?_).mono ?_
    · simp [World.cell?, hp]
    · simp [World.frozen?, hp]
    · simp [World.cell?, hq]
    · simp [World.frozen?, hq]
    · simp
    rintro e u' w'' ⟨rfl, rfl, hww⟩
    have hK : Kept w w'' := by
      have k3 : Kept w (w4.alloc (.cells #[.iface 118 (.pointer (some ⟨b, 0, none⟩))] 234)) := KW.trans (Kept.alloc _ _)
      rw [hww]
      exact ⟨k3.1, k3.2, by simpa using k3.3, fun q hq => (Below.heap_setCell _ _ _ q (by intro z; simp at z; omega)).trans ((Below.heap_setCell _ _ _ q (by intro z; simp at z; omega)).trans (k3.4 q hq))⟩
    have hp3 : (w4.alloc (.cells #[.iface 118 (.pointer (some ⟨b, 0, none⟩))] 234)).cell? ⟨w.heap.size, 0, none⟩ = some .nilIface := by simp [World.cell?, (Kept.alloc w4 (.cells #[.iface 118 (.pointer (some ⟨b, 0, none⟩))] 234)).blk hp]
    have hq3 : (w4.alloc (.cells #[.iface 118 (.pointer (some ⟨b, 0, none⟩))] 234)).cell? ⟨w.heap.size + 1, 0, none⟩ = some .nilIface := by simp [World.cell?, (Kept.alloc w4 (.cells #[.iface 118 (.pointer (some ⟨b, 0, none⟩))] 234)).blk hq]
    have cp : w''.cell? ⟨w.heap.size, 0, none⟩ = some .nilIface := by
      rw [hww, World.cell?_setCell_other _ _ _ _ (by simp)]
      exact World.cell?_setCell_same _ _ _ hp3
    have cq : w''.cell? ⟨w.heap.size + 1, 0, none⟩ = some (.iface 118 (.pointer (some ⟨b, 0, none⟩))) := by
      rw [hww]
      refine World.cell?_setCell_same _ _ _ (u := .nilIface) ?_
      rw [World.cell?_setCell_other _ _ _ _ (by simp)]
      exact hq3
    have hX : ∀ k o, w.heap.size + 2 ≤ k → w4.heap[k]? = some o → w''.heap[k]? = some o := by
      intro k o hk ho
      rw [hww]
      exact (Below.heap_setCell _ _ _ k (by intro z; simp at z; omega)).trans ((Below.heap_setCell _ _ _ k (by intro z; simp at z; omega)).trans ((Kept.alloc w4 _).blk ho))
    clear hww
    have FIN : Hid _ := HSYN.out b l _ hK hn (hX b _ hbb hb4)
    simp [Leaves, settle, results, Tryz.results71, go_sem, cp, cq]
    exact FIN.out
  obtain ⟨hB, hnn⟩ := bz_neg (show bz L K B < 0 by omega)
  obtain ⟨v, vb, he, hv, hEnd⟩ := hres.1 hB hnn
  clear hz hres
  subst he
  have kq := hEnd.kp
  have P4 := hEnd.at'
  have V4 := hEnd.vm
  have hp := (kq.block _ (lt_of_block hp3) (by show ¬ _; omega)).trans hp3
  have hq := (kq.block _ (lt_of_block hq3) (by show ¬ _; omega)).trans hq3
  have hrc4 := (kq.block _ (lt_of_block hrc) (by show ¬ _; omega)).trans hrc
  have KW : Kept w w4 := ⟨kq.os.trans KW3.os, kq.output.trans KW3.output, Nat.le_trans KW3.size kq.size, fun q h1 => (kq.block q (Nat.lt_of_lt_of_le h1 KW3.size) (by show ¬ _; omega)).trans (KW3.block q h1)⟩
  obtain ⟨T, u, rfl⟩ := hv.iface
  have hvb := V4.vblk
  have hnd := V4.nodup hokN.2.nd
  have cp4 : w4.cell? ⟨w.heap.size, 0, none⟩ = some .nilIface := by simp [World.cell?, hp]
  have fp4 : w4.frozen? ⟨w.heap.size, 0, none⟩ = false := by simp [World.frozen?, hp]
  have h5b : ∀ b, b ≠ w.heap.size → (w4.setCell ⟨w.heap.size, 0, none⟩ (.iface T u)).heap[b]? = w4.heap[b]? := fun b hb => Below.heap_setCell _ _ _ b (by intro z; simp at z; omega)
  have hp5 : (w4.setCell ⟨w.heap.size, 0, none⟩ (.iface T u)).heap[w.heap.size]? = some (.cells #[.iface T u] 140 (0, 0)) := by simp [World.setCell, hp, Array.getElem?_modify]
  have hq5 := (h5b (w.heap.size + 1) (by omega)).trans hq
  have hrc5 := (h5b (w2.heap.size + 1) (by omega)).trans hrc4
  have P5 : PAt (w4.setCell ⟨w.heap.size, 0, none⟩ (.iface T u)) (w.heap.size + 2) s L K := by
    obtain ⟨kd, e1, e2⟩ := P4.ex
    exact ⟨⟨kd, (h5b _ (by omega)).trans e1, e2⟩, P4.lt, P4.nn⟩
  have hkp5 : ∀ (k : Nat) (cs : Array Value) (e : TypeId) (f : Nat × Nat), e ≠ 140 → w4.heap[k]? = some (.cells cs e f) → (w4.setCell ⟨w.heap.size, 0, none⟩ (.iface T u)).heap[k]? = some (.cells cs e f) := fun k cs e f he hk => (h5b k (fun z => by
    rw [z, hp] at hk
    simp only [Option.some.injEq, Obj.cells.injEq] at hk
    exact he hk.2.1.symm)).trans hk
  have X5 : PTy (w4.setCell ⟨w.heap.size, 0, none⟩ (.iface T u)) vb t (.iface T u) := hv.keep (fun k cs e f he hk => hkp5 k cs e f (by rcases he with rfl | rfl | rfl <;> decide) hk)
  have hvb5 : ∀ c, c ∈ vb → VBlk (w4.setCell ⟨w.heap.size, 0, none⟩ (.iface T u)) c := fun c hc => by
    obtain ⟨nm, h1⟩ := hvb c hc
    exact ⟨nm, hkp5 c _ _ _ (by decide) h1⟩
  have KW5 : Kept w (w4.setCell ⟨w.heap.size, 0, none⟩ (.iface T u)) := ⟨KW.1, KW.2, by simpa using KW.3, fun q h1 => (h5b q (by omega)).trans (KW.4 q h1)⟩
  have hws : w.heap.size + 2 ≤ (w4.setCell ⟨w.heap.size, 0, none⟩ (.iface T u)).heap.size := by have := lt_of_block hq; simp; omega
  clear hp hq hrc4 P4 hv KW hrc h5b hp3 hq3 hp2 hq2 hp0 hq0 hEnd V4 hvb hV3 hmp kq hkp5
  generalize hw5 : w4.setCell ⟨w.heap.size, 0, none⟩ (.iface T u) = w5 at *
  have a5 : w5.cell? ⟨w2.heap.size + 1, 0, none⟩ = some (.pointer (some ⟨w.heap.size + 2, 0, none⟩)) := by simp [World.cell?, hrc5]
  have cp5 : w5.cell? ⟨w.heap.size, 0, none⟩ = some (.iface T u) := by simp [World.cell?, hp5]
  obtain ⟨kdK, hr5, hT5⟩ := P5.ex
  have hend := tk_end hE P5.lt hT5
  have hB1 : B = -1 := ((tread_bad L n).1 _ _ _ _ _ _ _ HM.out).2 hB
  subst hB1
  by_cases hke : kdK = 0
  · have hme : isM L { data := #[101, 110, 100] } K (-1) = true := by rw [isM_same, ← hend, hke]; rfl
    have hneg : needB L { data := #[101, 110, 100] } K (-1) < 0 := by rw [(need_true hme).2]; omega
    have HEN : Hid _ := pexpend_any w5 (w.heap.size + 2) s _ kdK _ hr5 hke
    have c4 := (HG.out.kept KW5).c4
    clear hr5 hT5 hend hke
    go_wp2_with fail
    refine Calls.mono HEN.out ?_
    rintro e w' ⟨rfl, hww⟩
    rw [hww]
    clear hww w' HEN
    have HDP : Hid _ := above_ty X5 hvb5
    go_wp2_with fail
    refine Calls.mono HDP.out ?_
    rintro e w6 ⟨rfl, hk6⟩
    have d1 := hk6.cell c4
    have hp := hk6.blk hp5
    have hq := hk6.blk hq5
    have cp6 : w6.cell? ⟨w.heap.size, 0, none⟩ = some (.iface T u) := by simp [World.cell?, hp]
    have fp6 : w6.frozen? ⟨w.heap.size, 0, none⟩ = false := by simp [World.frozen?, hp]
    have cq6 : w6.cell? ⟨w.heap.size + 1, 0, none⟩ = some .nilIface := by simp [World.cell?, hq]
    have fq6 : w6.frozen? ⟨w.heap.size + 1, 0, none⟩ = false := by simp [World.frozen?, hq]
    have KW : Kept w w6 := KW5.trans hk6
    have X6 := X5.keep (PKeep.kept hk6)
    have hvb6 : ∀ c, c ∈ vb → VBlk w6 c := fun c hc => (hvb5 c hc).kept hk6
    clear HDP
    by_cases hd : 120 < sz t
    · have hdd : decide (120 < sz t) = true := by simp [hd]
      rw [hdd]
      go_wp2_with (go_at_call 90; refine Calls.mono (prefuse_es _ _) ?_; rintro e w' ⟨he, hww⟩; rw [hww, he]; clear hww he w' e)
      refine leaves_cons (f := 99) (args := #[.pointer (some ⟨w.heap.size, 0, none⟩), .pointer (some ⟨w.heap.size + 1, 0, none⟩)]) (by simp) (by simp [go_sem]) ?_
      refine (catchT_panicking ⟨w.heap.size, 0, none⟩ ⟨w.heap.size + 1, 0, none⟩ (.iface T u) .nilIface 368 (.pointer (some (A 4))) [] w6 ?_ ?_ ?_ ?_ ?_).mono ?_
      · simp [World.cell?, hp]
      · simp [World.frozen?, hp]
      · simp [World.cell?, hq]
      · simp [World.frozen?, hq]
      · simp
      rintro e u' w'' ⟨rfl, rfl, hww⟩
      have hK : Kept w w'' := by
        have k3 : Kept w (w6.alloc (.cells #[.iface 368 (.pointer (some (A 4)))] 234)) := KW.trans (Kept.alloc _ _)
        rw [hww]
        exact ⟨k3.1, k3.2, by simpa using k3.3, fun q hq => (Below.heap_setCell _ _ _ q (by intro z; simp at z; omega)).trans ((Below.heap_setCell _ _ _ q (by intro z; simp at z; omega)).trans (k3.4 q hq))⟩
      have hp3 : (w6.alloc (.cells #[.iface 368 (.pointer (some (A 4)))] 234)).cell? ⟨w.heap.size, 0, none⟩ = some (.iface T u) := by simp [World.cell?, (Kept.alloc w6 (.cells #[.iface 368 (.pointer (some (A 4)))] 234)).blk hp]
      have hq3 : (w6.alloc (.cells #[.iface 368 (.pointer (some (A 4)))] 234)).cell? ⟨w.heap.size + 1, 0, none⟩ = some .nilIface := by simp [World.cell?, (Kept.alloc w6 (.cells #[.iface 368 (.pointer (some (A 4)))] 234)).blk hq]
      have cp : w''.cell? ⟨w.heap.size, 0, none⟩ = some .nilIface := by
        rw [hww, World.cell?_setCell_other _ _ _ _ (by simp)]
        exact World.cell?_setCell_same _ _ _ hp3
      have cq : w''.cell? ⟨w.heap.size + 1, 0, none⟩ = some (.iface 368 (.pointer (some (A 4)))) := by
        rw [hww]
        refine World.cell?_setCell_same _ _ _ (u := .nilIface) ?_
        rw [World.cell?_setCell_other _ _ _ _ (by simp)]
        exact hq3
      have hX : ∀ k o, w.heap.size + 2 ≤ k → w6.heap[k]? = some o → w''.heap[k]? = some o := by
        intro k o hk ho
        rw [hww]
        exact (Below.heap_setCell _ _ _ k (by intro z; simp at z; omega)).trans ((Below.heap_setCell _ _ _ k (by intro z; simp at z; omega)).trans ((Kept.alloc w6 _).blk ho))
      clear hww
      have FIN : Hid _ := HBIG.out _ hK hneg hd
      simp [Leaves, settle, results, Tryz.results71, go_sem, cp, cq]
      exact FIN.out
    · have hdd : decide (120 < sz t) = false := by simp [hd]
      rw [hdd]
      have h7b : ∀ b, b ≠ w.heap.size → b ≠ w.heap.size + 1 → ((w6.setCell ⟨w.heap.size, 0, none⟩ (.iface T u)).setCell ⟨w.heap.size + 1, 0, none⟩ .nilIface).heap[b]? = w6.heap[b]? := fun b h1 h2 => (Below.heap_setCell _ _ _ b (by intro z; simp at z; omega)).trans (Below.heap_setCell _ _ _ b (by intro z; simp at z; omega))
      have cp : ((w6.setCell ⟨w.heap.size, 0, none⟩ (.iface T u)).setCell ⟨w.heap.size + 1, 0, none⟩ .nilIface).cell? ⟨w.heap.size, 0, none⟩ = some (.iface T u) := by
        rw [World.cell?_setCell_other _ _ _ _ (by simp)]
        exact World.cell?_setCell_same _ _ _ cp6
      have cq : ((w6.setCell ⟨w.heap.size, 0, none⟩ (.iface T u)).setCell ⟨w.heap.size + 1, 0, none⟩ .nilIface).cell? ⟨w.heap.size + 1, 0, none⟩ = some .nilIface := by
        refine World.cell?_setCell_same _ _ _ (u := .nilIface) ?_
        rw [World.cell?_setCell_other _ _ _ _ (by simp)]
        exact cq6
      have hkp7 : ∀ (k : Nat) (cs : Array Value) (e : TypeId) (f : Nat × Nat), e ≠ 140 → e ≠ 64 → w6.heap[k]? = some (.cells cs e f) → ((w6.setCell ⟨w.heap.size, 0, none⟩ (.iface T u)).setCell ⟨w.heap.size + 1, 0, none⟩ .nilIface).heap[k]? = some (.cells cs e f) := fun k cs e f he he2 hk => (h7b k (fun z => by
        rw [z, hp] at hk
        simp only [Option.some.injEq, Obj.cells.injEq] at hk
        exact he hk.2.1.symm) (fun z => by
        rw [z, hq] at hk
        simp only [Option.some.injEq, Obj.cells.injEq] at hk
        exact he2 hk.2.1.symm)).trans hk
      have hK : Kept w ((w6.setCell ⟨w.heap.size, 0, none⟩ (.iface T u)).setCell ⟨w.heap.size + 1, 0, none⟩ .nilIface) := ⟨KW.1, KW.2, by simpa using KW.3, fun q h1 => (h7b q (by omega) (by omega)).trans (KW.4 q h1)⟩
      have XF : PTy ((w6.setCell ⟨w.heap.size, 0, none⟩ (.iface T u)).setCell ⟨w.heap.size + 1, 0, none⟩ .nilIface) vb t (.iface T u) := X6.keep (fun k cs e f he hk => hkp7 k cs e f (by rcases he with rfl | rfl | rfl <;> decide) (by rcases he with rfl | rfl | rfl <;> decide) hk)
      have hvF : ∀ c, c ∈ vb → VBlk ((w6.setCell ⟨w.heap.size, 0, none⟩ (.iface T u)).setCell ⟨w.heap.size + 1, 0, none⟩ .nilIface) c := fun c hc => by
        obtain ⟨nm, h1⟩ := hvb6 c hc
        exact ⟨nm, hkp7 c _ _ _ (by decide) (by decide) h1⟩
      have FIN : Hid _ := HOK.out (.iface T u) vb _ hK hneg (by omega) XF hvF hnd
      clear h7b XF X6 X5 hK hkp7 hvF hvb6 hvb5 hdd
      go_wp2_with fail
      refine leaves_cons (f := 99) (args := #[.pointer (some ⟨w.heap.size, 0, none⟩), .pointer (some ⟨w.heap.size + 1, 0, none⟩)]) (by simp) (by simp [go_sem]) ?_
      refine (catchT_idle ⟨w.heap.size, 0, none⟩ ⟨w.heap.size + 1, 0, none⟩ _).mono ?_
      rintro e u' w'' ⟨rfl, rfl, rfl⟩
      simp [Leaves, settle, results, Tryz.results71, go_sem, cp, cq]
      exact FIN.out
  · have hme : isM L { data := #[101, 110, 100] } K (-1) = false := by
      rw [isM_same, ← hend]
      simp [hke]
    have hn : needB L { data := #[101, 110, 100] } K (-1) = (tkAt L K).loc := (need_false hme).2
    have HEN : Hid _ := pexpend_bad w5 (w.heap.size + 2) s _ kdK _ hr5 hke
    clear hr5 hT5 hend hke hme
    go_wp2_with fail
    refine Calls.mono HEN.out ?_
    rintro e w6 ⟨b, he, hb4, hb, hk6⟩
    have hp := hk6.blk hp5
    have hq := hk6.blk hq5
    have KW : Kept w w6 := KW5.trans hk6
    have hbb : w.heap.size + 2 ≤ b := by omega
    rw [he]
    clear he HEN
    refine leaves_cons (f := 99) (args := #[.pointer (some ⟨w.heap.size, 0, none⟩), .pointer (some ⟨w.heap.size + 1, 0, none⟩)]) (by simp) (by simp [go_sem]) ?_
    refine (catchT_panicking ⟨w.heap.size, 0, none⟩ ⟨w.heap.size + 1, 0, none⟩ (.iface T u) .nilIface 118 (.pointer (some ⟨b, 0, none⟩)) [] w6 ?_ ?_ ?_ ?_ ?_).mono ?_
    · simp [World.cell?, hp]
    · simp [World.frozen?, hp]
    · simp [World.cell?, hq]
    · simp [World.frozen?, hq]
    · simp
    rintro e u' w'' ⟨rfl, rfl, hww⟩
    have hK : Kept w w'' := by
      have k3 : Kept w (w6.alloc (.cells #[.iface 118 (.pointer (some ⟨b, 0, none⟩))] 234)) := KW.trans (Kept.alloc _ _)
      rw [hww]
      exact ⟨k3.1, k3.2, by simpa using k3.3, fun q hq => (Below.heap_setCell _ _ _ q (by intro z; simp at z; omega)).trans ((Below.heap_setCell _ _ _ q (by intro z; simp at z; omega)).trans (k3.4 q hq))⟩
    have hp3 : (w6.alloc (.cells #[.iface 118 (.pointer (some ⟨b, 0, none⟩))] 234)).cell? ⟨w.heap.size, 0, none⟩ = some (.iface T u) := by simp [World.cell?, (Kept.alloc w6 (.cells #[.iface 118 (.pointer (some ⟨b, 0, none⟩))] 234)).blk hp]
    have hq3 : (w6.alloc (.cells #[.iface 118 (.pointer (some ⟨b, 0, none⟩))] 234)).cell? ⟨w.heap.size + 1, 0, none⟩ = some .nilIface := by simp [World.cell?, (Kept.alloc w6 (.cells #[.iface 118 (.pointer (some ⟨b, 0, none⟩))] 234)).blk hq]
    have cp : w''.cell? ⟨w.heap.size, 0, none⟩ = some .nilIface := by
      rw [hww, World.cell?_setCell_other _ _ _ _ (by simp)]
      exact World.cell?_setCell_same _ _ _ hp3
    have cq : w''.cell? ⟨w.heap.size + 1, 0, none⟩ = some (.iface 118 (.pointer (some ⟨b, 0, none⟩))) := by
      rw [hww]
      refine World.cell?_setCell_same _ _ _ (u := .nilIface) ?_
      rw [World.cell?_setCell_other _ _ _ _ (by simp)]
      exact hq3
    have hX : ∀ k o, w.heap.size + 2 ≤ k → w6.heap[k]? = some o → w''.heap[k]? = some o := by
      intro k o hk ho
      rw [hww]
      exact (Below.heap_setCell _ _ _ k (by intro z; simp at z; omega)).trans ((Below.heap_setCell _ _ _ k (by intro z; simp at z; omega)).trans ((Kept.alloc w6 _).blk ho))
    clear hww
    have FIN : Hid _ := HSYN.out b _ _ hK hn (hX b _ hbb hb4)
    simp [Leaves, settle, results, Tryz.results71, go_sem, cp, cq]
    exact FIN.out
end Go.Proofs.YtnhmjndjclpnlaaGreatDoor
