import Derived.Test.YtleenphlgbklmaaGreatDoorRPCatch
import Derived.Test.YtleenphlgbklmaaGreatDoorRPTyAll
import Derived.Test.YtleenphlgbklmaaGreatDoorRPRoom
import Derived.Test.YtleenphlgbklmaaGreatDoorRPTkEnd
import Derived.Test.YtleenphlgbklmaaGreatDoorRWTake
import Derived.Test.YtleenphlgbklmaaGreatDoorRPKnown
import Derived.LaidEql
set_option linter.unusedVariables false
set_option linter.unusedSimpArgs false
namespace Go.Proofs.YtleenphlgbklmaaGreatDoor
open Go.RowKit
set_option maxRecDepth 20000 in
theorem ppt_throw (R : TypeId → Value → World → Prop) (s : ByteArray) (w : World)
    (HN : Hid (Calls Tryz.prog 96 #[.string s] ((w.alloc (.cells #[.nilIface] 156)).alloc (.cells #[.nilIface] 72)) fun e w' => ∃ T z, e = thrown (.iface T z) ∧ R T z w' ∧ Kept ((w.alloc (.cells #[.nilIface] 156)).alloc (.cells #[.nilIface] 72)) w')) :
    Calls Tryz.prog 80 #[.string s] w fun e w' => ∃ T z w2, e = .returned (.tuple #[.nilIface, .iface T z]) ∧ R T z w2 ∧ Kept w w' ∧ ∀ k o, w.heap.size + 2 ≤ k → w2.heap[k]? = some o → w'.heap[k]? = some o := by
  have hk1 : Kept w ((w.alloc (.cells #[.nilIface] 156)).alloc (.cells #[.nilIface] 72)) := (Kept.alloc _ _).trans (Kept.alloc _ _)
  have hp0 : ((w.alloc (.cells #[.nilIface] 156)).alloc (.cells #[.nilIface] 72)).heap[w.heap.size]? = some (.cells #[.nilIface] 156 (0, 0)) := (Kept.alloc _ _).blk (heap_alloc_new _ _)
  have hq0 : ((w.alloc (.cells #[.nilIface] 156)).alloc (.cells #[.nilIface] 72)).heap[w.heap.size + 1]? = some (.cells #[.nilIface] 72 (0, 0)) := by
    have := heap_alloc_new (w.alloc (.cells #[.nilIface] 156)) (.cells #[.nilIface] 72)
    simpa using this
  go_enter_defers Tryz.func80, Tryz.ntmps80
  go_wp2_with fail
  refine Calls.mono HN.out ?_
  rintro e w2 ⟨T, z, rfl, hR, hk2⟩
  have hp2 := hk2.blk hp0
  have hq2 := hk2.blk hq0
  refine leaves_cons (f := 108) (args := #[.pointer (some ⟨w.heap.size, 0, none⟩), .pointer (some ⟨w.heap.size + 1, 0, none⟩)]) (by simp) (by simp [go_sem]) ?_
  refine (catchT_panicking ⟨w.heap.size, 0, none⟩ ⟨w.heap.size + 1, 0, none⟩ .nilIface .nilIface T z [] w2 ?_ ?_ ?_ ?_ ?_).mono ?_
  · simp [World.cell?, hp2]
  · simp [World.frozen?, hp2]
  · simp [World.cell?, hq2]
  · simp [World.frozen?, hq2]
  · simp
  rintro e u' w'' ⟨rfl, rfl, hww⟩
  have hK : Kept w w'' := by
    have k3 : Kept w (w2.alloc (.cells #[.iface T z] 250)) := (hk1.trans hk2).trans (Kept.alloc _ _)
    rw [hww]
    exact ⟨k3.1, k3.2, by simpa using k3.3, fun q hq => (Below.heap_setCell _ _ _ q (by intro z; simp at z; omega)).trans ((Below.heap_setCell _ _ _ q (by intro z; simp at z; omega)).trans (k3.4 q hq))⟩
  have hp3 : (w2.alloc (.cells #[.iface T z] 250)).cell? ⟨w.heap.size, 0, none⟩ = some .nilIface := by simp [World.cell?, (Kept.alloc w2 (.cells #[.iface T z] 250)).blk hp2]
  have hq3 : (w2.alloc (.cells #[.iface T z] 250)).cell? ⟨w.heap.size + 1, 0, none⟩ = some .nilIface := by simp [World.cell?, (Kept.alloc w2 (.cells #[.iface T z] 250)).blk hq2]
  have cp : w''.cell? ⟨w.heap.size, 0, none⟩ = some .nilIface := by
    rw [hww, World.cell?_setCell_other _ _ _ _ (by simp)]
    exact World.cell?_setCell_same _ _ _ hp3
  have cq : w''.cell? ⟨w.heap.size + 1, 0, none⟩ = some (.iface T z) := by
    rw [hww]
    refine World.cell?_setCell_same _ _ _ (u := .nilIface) ?_
    rw [World.cell?_setCell_other _ _ _ _ (by simp)]
    exact hq3
  have hX : ∀ k o, w.heap.size + 2 ≤ k → w2.heap[k]? = some o → w''.heap[k]? = some o := by
    intro k o hk ho
    rw [hww]
    exact (Below.heap_setCell _ _ _ k (by intro z; simp at z; omega)).trans ((Below.heap_setCell _ _ _ k (by intro z; simp at z; omega)).trans ((Kept.alloc w2 _).blk ho))
  clear hww
  simp [Leaves, settle, results, Tryz.results80, go_sem, cp, cq]
  exact ⟨T, z, ⟨rfl, rfl⟩, w2, hR, hK, hX⟩

def tyWords : List ByteArray := [{ data := #[105, 110, 116] }, { data := #[98, 111, 111, 108] }]
theorem tyWordsOk : KwOk tyWords := by
  refine ⟨fun w hw => ?_, fun w hw => ?_⟩
  · simp only [tyWords, List.mem_cons, List.not_mem_nil, or_false] at hw
    rcases hw with rfl | rfl <;> exact ⟨ne_of_list (by decide), ne_of_list (by decide), ne_of_list (by decide), ne_of_list (by decide)⟩
  · simp only [tyWords, List.mem_cons, List.not_mem_nil, or_false] at hw
    rcases hw with rfl | rfl <;> decide
theorem lexT0 {s : ByteArray} {L : List Tk} (hE : PEnv s tyWords L) : 0 < L.length ∧ (tkAt L 0).loc = run blI s 0 := by
  have hk : ∀ w, w ∈ tyWords → w ≠ { data := #[110, 97, 109, 101] } := fun w hw => (tyWordsOk.ne w hw).1
  have hp : 0 < L.length := by rw [hE.eq]; exact toks_pos s tyWords
  refine ⟨hp, ?_⟩
  have h := (toks_next s tyWords hk (s.size + 1) 0 (Nat.zero_le _) 0 (by rw [← hE.eq]; exact hp)).1 rfl
  rw [← hE.eq] at h
  rw [h]
  rfl
theorem Tryz.mkV (w : World) : (Instr.makeMap 208 none).run Tryz.prog w = .ok (.map (some w.heap.size)) (w.alloc (.map #[] 0)) := by kernel_rfl
set_option maxRecDepth 20000 in
set_option maxHeartbeats 1000000 in
theorem pt_main {A : Nat → Addr} {s : ByteArray} {L : List Tk} (hE : PEnv s tyWords L) (w : World) (hG : Glb A w) (n : Nat) (t : Ty) (names : List ByteArray) (K : Nat) (B : Int) (hM : arrowM L n [] 0 (-1) = some (t, names, K, B)) (h0 : (tkAt L 0).is ≠ { data := #[110, 111, 110, 101] }) (R : Ending → World → Prop)
    (hsyn : ∀ (b l : Nat) (w' : World), Kept w w' → needB L { data := #[101, 110, 100] } K B = l → w'.heap[b]? = some (.cells #[.int .i64 l] 145 (0, 0)) → R (.returned (.tuple #[.nilIface, .iface 134 (.pointer (some ⟨b, 0, none⟩))])) w')
    (hbig : ∀ w' : World, Kept w w' → needB L { data := #[101, 110, 100] } K B < 0 → 120 < sz t → R (.returned (.tuple #[.nilIface, .iface 407 (.pointer (some (A 4)))])) w')
    (hok : ∀ (v : Value) (vb : List Nat) (w' : World), Kept w w' → needB L { data := #[101, 110, 100] } K B < 0 → sz t ≤ 120 → PTyR w' vb w.heap.size w'.heap.size t v → (∀ c, c ∈ vb → VBlk w' c ∧ w.heap.size ≤ c) → vb.Nodup → NB w' vb names → R (.returned (.tuple #[v, .nilIface])) w') :
    Calls Tryz.prog 80 #[.string s] w R := by
  have hk1 : Kept w ((w.alloc (.cells #[.nilIface] 156)).alloc (.cells #[.nilIface] 72)) := (Kept.alloc _ _).trans (Kept.alloc _ _)
  have hp0 : ((w.alloc (.cells #[.nilIface] 156)).alloc (.cells #[.nilIface] 72)).heap[w.heap.size]? = some (.cells #[.nilIface] 156 (0, 0)) := (Kept.alloc _ _).blk (heap_alloc_new _ _)
  have hq0 : ((w.alloc (.cells #[.nilIface] 156)).alloc (.cells #[.nilIface] 72)).heap[w.heap.size + 1]? = some (.cells #[.nilIface] 72 (0, 0)) := by
    have := heap_alloc_new (w.alloc (.cells #[.nilIface] 156)) (.cells #[.nilIface] 72)
    simpa using this
  have hs1 : ((w.alloc (.cells #[.nilIface] 156)).alloc (.cells #[.nilIface] 72)).heap.size = w.heap.size + 2 := by simp
  obtain ⟨hlp, hl0⟩ := lexT0 hE
  obtain ⟨kd, hT⟩ := tk_tok hE.kw hE.eq 0 hlp h0
  rw [hl0] at hT
  have HN : Hid _ := pnew_some s ((w.alloc (.cells #[.nilIface] 156)).alloc (.cells #[.nilIface] 72)) hE.sz kd _ _ hT
  have HT : Hid _ := hT
  have HSE : Hid _ := (ptref_all s tyWords L hE rfl n).1
  have HM : Hid _ := hM
  have HG : Hid _ := hG
  have HSYN : Hid _ := hsyn
  have HBIG : Hid _ := hbig
  have HOK : Hid _ := hok
  clear hM hG hT hsyn hbig hok
  generalize hW : ((w.alloc (.cells #[.nilIface] 156)).alloc (.cells #[.nilIface] 72)) = W at *
  go_enter_defers Tryz.func80, Tryz.ntmps80
  go_wp2_with fail
  refine Calls.mono HN.out ?_
  rintro e w2 ⟨rfl, hk2, hP2⟩
  have m2 := Tryz.mkV w2
  have hp2 := hk2.blk hp0
  have hq2 := hk2.blk hq0
  rw [hs1] at hP2
  have PA : PAt w2 (w.heap.size + 2) s L 0 := ⟨⟨kd, by rw [hl0]; exact hP2, by rw [hl0]; exact HT.out⟩, hlp, h0⟩
  have hkm : Kept w2 (w2.alloc (.map #[] 0)) := Kept.alloc _ _
  have hkr : Kept (w2.alloc (.map #[] 0)) ((w2.alloc (.map #[] 0)).alloc (.cells #[.pointer (some ⟨w.heap.size + 2, 0, none⟩), .map (some w2.heap.size)] 210)) := Kept.alloc _ _
  have hmp : ((w2.alloc (.map #[] 0)).alloc (.cells #[.pointer (some ⟨w.heap.size + 2, 0, none⟩), .map (some w2.heap.size)] 210)).heap[w2.heap.size]? = some (.map #[] 0) := hkr.blk (heap_alloc_new _ _)
  have hrc : ((w2.alloc (.map #[] 0)).alloc (.cells #[.pointer (some ⟨w.heap.size + 2, 0, none⟩), .map (some w2.heap.size)] 210)).heap[w2.heap.size + 1]? = some (.cells #[.pointer (some ⟨w.heap.size + 2, 0, none⟩), .map (some w2.heap.size)] 210 (0, 0)) := by
    have := heap_alloc_new (w2.alloc (.map #[] 0)) (.cells #[.pointer (some ⟨w.heap.size + 2, 0, none⟩), .map (some w2.heap.size)] 210)
    simpa using this
  have hk23 := hkm.trans hkr
  have hp3 := hk23.blk hp2
  have hq3 := hk23.blk hq2
  have hs2 : w.heap.size + 2 < w2.heap.size := PA.lt'
  have KW3 := (hk1.trans hk2).trans hk23
  have PA3 := PA.kept hk23
  clear HN hP2 PA hkm hkr
  rw [hs1]
  go_wp2_with fail
  generalize hw3 : ((w2.alloc (.map #[] 0)).alloc (.cells #[.pointer (some ⟨w.heap.size + 2, 0, none⟩), .map (some w2.heap.size)] 210)) = w3 at *
  have hV3 : VM w3 w2.heap.size [] [] := ⟨rfl, by simpa [vEs] using hmp, fun j hj => by simp at hj⟩
  have a3 : w3.cell? ⟨w2.heap.size + 1, 0, none⟩ = some (.pointer (some ⟨w.heap.size + 2, 0, none⟩)) := by simp [World.cell?, hrc]
  have HX : Hid _ := HSE.out w3 (w.heap.size + 2) w2.heap.size 0 [] [] t names K B PA3 hV3 (NmOk.nil L) (by omega) HM.out
  have hokN := ((tread_ok L hE.good n).1 _ _ _ _ _ _ _ HM.out hlp (NmOk.nil L))
  refine Calls.mono HX.out ?_
  intro e w4 hres
  clear HX
  by_cases hz : 0 ≤ bz L K B
  · have hor : 0 ≤ B ∨ (tkAt L K).is = { data := #[110, 111, 110, 101] } := by
      by_cases hb : 0 ≤ B
      · exact .inl hb
      · by_cases hn : (tkAt L K).is = { data := #[110, 111, 110, 101] }
        · exact .inr hn
        · rw [bz_ok (by omega) hn] at hz; omega
    obtain ⟨l, hl, b, he, hb4, hb, kq⟩ := hres.thrown hor
    have hbz : bz L K B = l := by
      rcases hl with h1 | ⟨h1, h2, h3⟩
      · rw [h1]; exact bz_ge (by omega)
      · rw [bz_none h1 h2, h3]
    have hn : needB L { data := #[101, 110, 100] } K B = l := (need_bz hz (by decide)).2.trans hbz
    have hp := (kq.block _ (lt_of_block hp3) (by show ¬ _; omega)).trans hp3
    have hq := (kq.block _ (lt_of_block hq3) (by show ¬ _; omega)).trans hq3
    have KW : Kept w w4 := ⟨kq.os.trans KW3.os, kq.output.trans KW3.output, Nat.le_trans KW3.size kq.size, fun q h1 => (kq.block q (Nat.lt_of_lt_of_le h1 KW3.size) (by show ¬ _; omega)).trans (KW3.block q h1)⟩
    have hbb : w.heap.size + 2 ≤ b := by have := lt_of_block hrc; omega
    rw [he]
    clear he hres kq hp3 hq3
    refine leaves_cons (f := 108) (args := #[.pointer (some ⟨w.heap.size, 0, none⟩), .pointer (some ⟨w.heap.size + 1, 0, none⟩)]) (by simp) (by simp [go_sem]) ?_
    refine (catchT_panicking ⟨w.heap.size, 0, none⟩ ⟨w.heap.size + 1, 0, none⟩ .nilIface .nilIface 134 (.pointer (some ⟨b, 0, none⟩)) [] w4 ?_ ?_ ?_ ?_ ?_).mono ?_
    · simp [World.cell?, hp]
    · simp [World.frozen?, hp]
    · simp [World.cell?, hq]
    · simp [World.frozen?, hq]
    · simp
    rintro e u' w'' ⟨rfl, rfl, hww⟩
    have hK : Kept w w'' := by
      have k3 : Kept w (w4.alloc (.cells #[.iface 134 (.pointer (some ⟨b, 0, none⟩))] 250)) := KW.trans (Kept.alloc _ _)
      rw [hww]
      exact ⟨k3.1, k3.2, by simpa using k3.3, fun q hq => (Below.heap_setCell _ _ _ q (by intro z; simp at z; omega)).trans ((Below.heap_setCell _ _ _ q (by intro z; simp at z; omega)).trans (k3.4 q hq))⟩
    have hp3 : (w4.alloc (.cells #[.iface 134 (.pointer (some ⟨b, 0, none⟩))] 250)).cell? ⟨w.heap.size, 0, none⟩ = some .nilIface := by simp [World.cell?, (Kept.alloc w4 (.cells #[.iface 134 (.pointer (some ⟨b, 0, none⟩))] 250)).blk hp]
    have hq3 : (w4.alloc (.cells #[.iface 134 (.pointer (some ⟨b, 0, none⟩))] 250)).cell? ⟨w.heap.size + 1, 0, none⟩ = some .nilIface := by simp [World.cell?, (Kept.alloc w4 (.cells #[.iface 134 (.pointer (some ⟨b, 0, none⟩))] 250)).blk hq]
    have cp : w''.cell? ⟨w.heap.size, 0, none⟩ = some .nilIface := by
      rw [hww, World.cell?_setCell_other _ _ _ _ (by simp)]
      exact World.cell?_setCell_same _ _ _ hp3
    have cq : w''.cell? ⟨w.heap.size + 1, 0, none⟩ = some (.iface 134 (.pointer (some ⟨b, 0, none⟩))) := by
      rw [hww]
      refine World.cell?_setCell_same _ _ _ (u := .nilIface) ?_
      rw [World.cell?_setCell_other _ _ _ _ (by simp)]
      exact hq3
    have hX : ∀ k o, w.heap.size + 2 ≤ k → w4.heap[k]? = some o → w''.heap[k]? = some o := by
      intro k o hk ho
      rw [hww]
      exact (Below.heap_setCell _ _ _ k (by intro z; simp at z; omega)).trans ((Below.heap_setCell _ _ _ k (by intro z; simp at z; omega)).trans ((Kept.alloc w4 _).blk ho))
    clear hww
    have FIN : Hid _ := HSYN.out b l _ hK hn (hX b _ hbb hb4)
    simp [Leaves, settle, results, Tryz.results80, go_sem, cp, cq]
    exact FIN.out
  obtain ⟨hB, hnn⟩ := bz_neg (show bz L K B < 0 by omega)
  obtain ⟨v, vb, he, hv, hEnd⟩ := hres.1 hB hnn
  clear hz hres
  subst he
  have kq := hEnd.kp
  have P4 := hEnd.at'
  have V4 := hEnd.vm
  have hp := (kq.block _ (lt_of_block hp3) (by show ¬ _; omega)).trans hp3
  have hq := (kq.block _ (lt_of_block hq3) (by show ¬ _; omega)).trans hq3
  have hrc4 := (kq.block _ (lt_of_block hrc) (by show ¬ _; omega)).trans hrc
  have KW : Kept w w4 := ⟨kq.os.trans KW3.os, kq.output.trans KW3.output, Nat.le_trans KW3.size kq.size, fun q h1 => (kq.block q (Nat.lt_of_lt_of_le h1 KW3.size) (by show ¬ _; omega)).trans (KW3.block q h1)⟩
  obtain ⟨T, u, rfl⟩ := hv.iface
  have hvb := V4.vblk
  have hnb : NB w4 vb names := ⟨V4.len, V4.vr⟩
  have hnd := V4.nodup hokN.2.nd
  have hfr : ∀ c, c ∈ vb → w.heap.size ≤ c := fun c hc => by
    obtain ⟨u', e1, e2⟩ := hEnd.pre
    rw [e1] at hc
    exact Nat.le_trans KW3.size (e2 c (by simpa using hc))
  have HFR : Hid _ := hfr
  have cp4 : w4.cell? ⟨w.heap.size, 0, none⟩ = some .nilIface := by simp [World.cell?, hp]
  have fp4 : w4.frozen? ⟨w.heap.size, 0, none⟩ = false := by simp [World.frozen?, hp]
  have h5b : ∀ b, b ≠ w.heap.size → (w4.setCell ⟨w.heap.size, 0, none⟩ (.iface T u)).heap[b]? = w4.heap[b]? := fun b hb => Below.heap_setCell _ _ _ b (by intro z; simp at z; omega)
  have hp5 : (w4.setCell ⟨w.heap.size, 0, none⟩ (.iface T u)).heap[w.heap.size]? = some (.cells #[.iface T u] 156 (0, 0)) := by simp [World.setCell, hp, Array.getElem?_modify]
  have hq5 := (h5b (w.heap.size + 1) (by omega)).trans hq
  have hrc5 := (h5b (w2.heap.size + 1) (by omega)).trans hrc4
  have P5 : PAt (w4.setCell ⟨w.heap.size, 0, none⟩ (.iface T u)) (w.heap.size + 2) s L K := by
    obtain ⟨kd, e1, e2⟩ := P4.ex
    exact ⟨⟨kd, (h5b _ (by omega)).trans e1, e2⟩, P4.lt, P4.nn⟩
  have hkp5 : ∀ (k : Nat) (cs : Array Value) (e : TypeId) (f : Nat × Nat), e ≠ 156 → w4.heap[k]? = some (.cells cs e f) → (w4.setCell ⟨w.heap.size, 0, none⟩ (.iface T u)).heap[k]? = some (.cells cs e f) := fun k cs e f he hk => (h5b k (fun z => by
    rw [z, hp] at hk
    simp only [Option.some.injEq, Obj.cells.injEq] at hk
    exact he hk.2.1.symm)).trans hk
  have X5 : PTyR (w4.setCell ⟨w.heap.size, 0, none⟩ (.iface T u)) vb w.heap.size (w4.setCell ⟨w.heap.size, 0, none⟩ (.iface T u)).heap.size t (.iface T u) := (hv.keep (fun k cs e f he hk => hkp5 k cs e f (by rcases he with rfl | rfl | rfl <;> decide) hk)).wide KW3.size (by simp)
  have hvb5 : ∀ c, c ∈ vb → VBlk (w4.setCell ⟨w.heap.size, 0, none⟩ (.iface T u)) c := fun c hc => by
    obtain ⟨nm, h1⟩ := hvb c hc
    exact ⟨nm, hkp5 c _ _ _ (by decide) h1⟩
  have hnb5 : NB (w4.setCell ⟨w.heap.size, 0, none⟩ (.iface T u)) vb names := ⟨hnb.1, fun j hj => hkp5 _ _ _ _ (by decide) (hnb.2 j hj)⟩
  have KW5 : Kept w (w4.setCell ⟨w.heap.size, 0, none⟩ (.iface T u)) := ⟨KW.1, KW.2, by simpa using KW.3, fun q h1 => (h5b q (by omega)).trans (KW.4 q h1)⟩
  have hws : w.heap.size + 2 ≤ (w4.setCell ⟨w.heap.size, 0, none⟩ (.iface T u)).heap.size := by have := lt_of_block hq; simp; omega
  clear hp hq hrc4 P4 hv KW hrc h5b hfr hp3 hq3 hp2 hq2 hp0 hq0 hEnd V4 hvb hnb hV3 hmp kq hkp5
  generalize hw5 : w4.setCell ⟨w.heap.size, 0, none⟩ (.iface T u) = w5 at *
  have a5 : w5.cell? ⟨w2.heap.size + 1, 0, none⟩ = some (.pointer (some ⟨w.heap.size + 2, 0, none⟩)) := by simp [World.cell?, hrc5]
  have cp5 : w5.cell? ⟨w.heap.size, 0, none⟩ = some (.iface T u) := by simp [World.cell?, hp5]
  obtain ⟨kdK, hr5, hT5⟩ := P5.ex
  have hend := tk_end hE P5.lt hT5
  have hB1 : B = -1 := ((tread_bad L n).1 _ _ _ _ _ _ _ HM.out).2 hB
  subst hB1
  by_cases hke : kdK = 0
  · have hme : isM L { data := #[101, 110, 100] } K (-1) = true := by rw [isM_same, ← hend, hke]; rfl
    have hneg : needB L { data := #[101, 110, 100] } K (-1) < 0 := by rw [(need_true hme).2]; omega
    have HEN : Hid _ := pexpend_any w5 (w.heap.size + 2) s _ kdK _ hr5 hke
    have c4 := (HG.out.kept KW5).c4
    clear hr5 hT5 hend hke
    go_wp2_with fail
    refine Calls.mono HEN.out ?_
    rintro e w' ⟨rfl, hww⟩
    rw [hww]
    clear hww w' HEN
    have HDP : Hid _ := above_ty X5.ty hvb5
    go_wp2_with fail
    refine Calls.mono HDP.out ?_
    rintro e w6 ⟨rfl, hk6⟩
    have d1 := hk6.cell c4
    have hp := hk6.blk hp5
    have hq := hk6.blk hq5
    have cp6 : w6.cell? ⟨w.heap.size, 0, none⟩ = some (.iface T u) := by simp [World.cell?, hp]
    have fp6 : w6.frozen? ⟨w.heap.size, 0, none⟩ = false := by simp [World.frozen?, hp]
    have cq6 : w6.cell? ⟨w.heap.size + 1, 0, none⟩ = some .nilIface := by simp [World.cell?, hq]
    have fq6 : w6.frozen? ⟨w.heap.size + 1, 0, none⟩ = false := by simp [World.frozen?, hq]
    have KW : Kept w w6 := KW5.trans hk6
    have X6 := X5.keep (PKeep.kept hk6)
    have hvb6 : ∀ c, c ∈ vb → VBlk w6 c := fun c hc => (hvb5 c hc).kept hk6
    have hnb6 : NB w6 vb names := ⟨hnb5.1, fun j hj => hk6.blk (hnb5.2 j hj)⟩
    clear HDP
    by_cases hd : 120 < sz t
    · have hdd : decide (120 < sz t) = true := by simp [hd]
      rw [hdd]
      go_wp2_with (go_at_call 99; refine Calls.mono (prefuse_es _ _) ?_; rintro e w' ⟨he, hww⟩; rw [hww, he]; clear hww he w' e)
      refine leaves_cons (f := 108) (args := #[.pointer (some ⟨w.heap.size, 0, none⟩), .pointer (some ⟨w.heap.size + 1, 0, none⟩)]) (by simp) (by simp [go_sem]) ?_
      refine (catchT_panicking ⟨w.heap.size, 0, none⟩ ⟨w.heap.size + 1, 0, none⟩ (.iface T u) .nilIface 407 (.pointer (some (A 4))) [] w6 ?_ ?_ ?_ ?_ ?_).mono ?_
      · simp [World.cell?, hp]
      · simp [World.frozen?, hp]
      · simp [World.cell?, hq]
      · simp [World.frozen?, hq]
      · simp
      rintro e u' w'' ⟨rfl, rfl, hww⟩
      have hK : Kept w w'' := by
        have k3 : Kept w (w6.alloc (.cells #[.iface 407 (.pointer (some (A 4)))] 250)) := KW.trans (Kept.alloc _ _)
        rw [hww]
        exact ⟨k3.1, k3.2, by simpa using k3.3, fun q hq => (Below.heap_setCell _ _ _ q (by intro z; simp at z; omega)).trans ((Below.heap_setCell _ _ _ q (by intro z; simp at z; omega)).trans (k3.4 q hq))⟩
      have hp3 : (w6.alloc (.cells #[.iface 407 (.pointer (some (A 4)))] 250)).cell? ⟨w.heap.size, 0, none⟩ = some (.iface T u) := by simp [World.cell?, (Kept.alloc w6 (.cells #[.iface 407 (.pointer (some (A 4)))] 250)).blk hp]
      have hq3 : (w6.alloc (.cells #[.iface 407 (.pointer (some (A 4)))] 250)).cell? ⟨w.heap.size + 1, 0, none⟩ = some .nilIface := by simp [World.cell?, (Kept.alloc w6 (.cells #[.iface 407 (.pointer (some (A 4)))] 250)).blk hq]
      have cp : w''.cell? ⟨w.heap.size, 0, none⟩ = some .nilIface := by
        rw [hww, World.cell?_setCell_other _ _ _ _ (by simp)]
        exact World.cell?_setCell_same _ _ _ hp3
      have cq : w''.cell? ⟨w.heap.size + 1, 0, none⟩ = some (.iface 407 (.pointer (some (A 4)))) := by
        rw [hww]
        refine World.cell?_setCell_same _ _ _ (u := .nilIface) ?_
        rw [World.cell?_setCell_other _ _ _ _ (by simp)]
        exact hq3
      have hX : ∀ k o, w.heap.size + 2 ≤ k → w6.heap[k]? = some o → w''.heap[k]? = some o := by
        intro k o hk ho
        rw [hww]
        exact (Below.heap_setCell _ _ _ k (by intro z; simp at z; omega)).trans ((Below.heap_setCell _ _ _ k (by intro z; simp at z; omega)).trans ((Kept.alloc w6 _).blk ho))
      clear hww
      have FIN : Hid _ := HBIG.out _ hK hneg hd
      simp [Leaves, settle, results, Tryz.results80, go_sem, cp, cq]
      exact FIN.out
    · have hdd : decide (120 < sz t) = false := by simp [hd]
      rw [hdd]
      have h7b : ∀ b, b ≠ w.heap.size → b ≠ w.heap.size + 1 → ((w6.setCell ⟨w.heap.size, 0, none⟩ (.iface T u)).setCell ⟨w.heap.size + 1, 0, none⟩ .nilIface).heap[b]? = w6.heap[b]? := fun b h1 h2 => (Below.heap_setCell _ _ _ b (by intro z; simp at z; omega)).trans (Below.heap_setCell _ _ _ b (by intro z; simp at z; omega))
      have cp : ((w6.setCell ⟨w.heap.size, 0, none⟩ (.iface T u)).setCell ⟨w.heap.size + 1, 0, none⟩ .nilIface).cell? ⟨w.heap.size, 0, none⟩ = some (.iface T u) := by
        rw [World.cell?_setCell_other _ _ _ _ (by simp)]
        exact World.cell?_setCell_same _ _ _ cp6
      have cq : ((w6.setCell ⟨w.heap.size, 0, none⟩ (.iface T u)).setCell ⟨w.heap.size + 1, 0, none⟩ .nilIface).cell? ⟨w.heap.size + 1, 0, none⟩ = some .nilIface := by
        refine World.cell?_setCell_same _ _ _ (u := .nilIface) ?_
        rw [World.cell?_setCell_other _ _ _ _ (by simp)]
        exact cq6
      have hkp7 : ∀ (k : Nat) (cs : Array Value) (e : TypeId) (f : Nat × Nat), e ≠ 156 → e ≠ 72 → w6.heap[k]? = some (.cells cs e f) → ((w6.setCell ⟨w.heap.size, 0, none⟩ (.iface T u)).setCell ⟨w.heap.size + 1, 0, none⟩ .nilIface).heap[k]? = some (.cells cs e f) := fun k cs e f he he2 hk => (h7b k (fun z => by
        rw [z, hp] at hk
        simp only [Option.some.injEq, Obj.cells.injEq] at hk
        exact he hk.2.1.symm) (fun z => by
        rw [z, hq] at hk
        simp only [Option.some.injEq, Obj.cells.injEq] at hk
        exact he2 hk.2.1.symm)).trans hk
      have hK : Kept w ((w6.setCell ⟨w.heap.size, 0, none⟩ (.iface T u)).setCell ⟨w.heap.size + 1, 0, none⟩ .nilIface) := ⟨KW.1, KW.2, by simpa using KW.3, fun q h1 => (h7b q (by omega) (by omega)).trans (KW.4 q h1)⟩
      have XF : PTyR ((w6.setCell ⟨w.heap.size, 0, none⟩ (.iface T u)).setCell ⟨w.heap.size + 1, 0, none⟩ .nilIface) vb w.heap.size ((w6.setCell ⟨w.heap.size, 0, none⟩ (.iface T u)).setCell ⟨w.heap.size + 1, 0, none⟩ .nilIface).heap.size t (.iface T u) := (X6.keep (fun k cs e f he hk => hkp7 k cs e f (by rcases he with rfl | rfl | rfl <;> decide) (by rcases he with rfl | rfl | rfl <;> decide) hk)).wide (Nat.le_refl _) (by simp; exact hk6.size)
      have hvF : ∀ c, c ∈ vb → VBlk ((w6.setCell ⟨w.heap.size, 0, none⟩ (.iface T u)).setCell ⟨w.heap.size + 1, 0, none⟩ .nilIface) c := fun c hc => by
        obtain ⟨nm, h1⟩ := hvb6 c hc
        exact ⟨nm, hkp7 c _ _ _ (by decide) (by decide) h1⟩
      have hnF : NB ((w6.setCell ⟨w.heap.size, 0, none⟩ (.iface T u)).setCell ⟨w.heap.size + 1, 0, none⟩ .nilIface) vb names := ⟨hnb6.1, fun j hj => hkp7 _ _ _ _ (by decide) (by decide) (hnb6.2 j hj)⟩
      have FIN : Hid _ := HOK.out (.iface T u) vb _ hK hneg (by omega) XF (fun c hc => ⟨hvF c hc, HFR.out c hc⟩) hnd hnF
      clear h7b XF X6 X5 hK hkp7 hvF hvb6 hvb5 hnF hnb6 hnb5 hdd
      go_wp2_with fail
      refine leaves_cons (f := 108) (args := #[.pointer (some ⟨w.heap.size, 0, none⟩), .pointer (some ⟨w.heap.size + 1, 0, none⟩)]) (by simp) (by simp [go_sem]) ?_
      refine (catchT_idle ⟨w.heap.size, 0, none⟩ ⟨w.heap.size + 1, 0, none⟩ _).mono ?_
      rintro e u' w'' ⟨rfl, rfl, rfl⟩
      simp [Leaves, settle, results, Tryz.results80, go_sem, cp, cq]
      exact FIN.out
  · have hme : isM L { data := #[101, 110, 100] } K (-1) = false := by
      rw [isM_same, ← hend]
      simp [hke]
    have hn : needB L { data := #[101, 110, 100] } K (-1) = (tkAt L K).loc := (need_false hme).2
    have HEN : Hid _ := pexpend_bad w5 (w.heap.size + 2) s _ kdK _ hr5 hke
    clear hr5 hT5 hend hke hme
    go_wp2_with fail
    refine Calls.mono HEN.out ?_
    rintro e w6 ⟨b, he, hb4, hb, hk6⟩
    have hp := hk6.blk hp5
    have hq := hk6.blk hq5
    have KW : Kept w w6 := KW5.trans hk6
    have hbb : w.heap.size + 2 ≤ b := by omega
    rw [he]
    clear he HEN
    refine leaves_cons (f := 108) (args := #[.pointer (some ⟨w.heap.size, 0, none⟩), .pointer (some ⟨w.heap.size + 1, 0, none⟩)]) (by simp) (by simp [go_sem]) ?_
    refine (catchT_panicking ⟨w.heap.size, 0, none⟩ ⟨w.heap.size + 1, 0, none⟩ (.iface T u) .nilIface 134 (.pointer (some ⟨b, 0, none⟩)) [] w6 ?_ ?_ ?_ ?_ ?_).mono ?_
    · simp [World.cell?, hp]
    · simp [World.frozen?, hp]
    · simp [World.cell?, hq]
    · simp [World.frozen?, hq]
    · simp
    rintro e u' w'' ⟨rfl, rfl, hww⟩
    have hK : Kept w w'' := by
      have k3 : Kept w (w6.alloc (.cells #[.iface 134 (.pointer (some ⟨b, 0, none⟩))] 250)) := KW.trans (Kept.alloc _ _)
      rw [hww]
      exact ⟨k3.1, k3.2, by simpa using k3.3, fun q hq => (Below.heap_setCell _ _ _ q (by intro z; simp at z; omega)).trans ((Below.heap_setCell _ _ _ q (by intro z; simp at z; omega)).trans (k3.4 q hq))⟩
    have hp3 : (w6.alloc (.cells #[.iface 134 (.pointer (some ⟨b, 0, none⟩))] 250)).cell? ⟨w.heap.size, 0, none⟩ = some (.iface T u) := by simp [World.cell?, (Kept.alloc w6 (.cells #[.iface 134 (.pointer (some ⟨b, 0, none⟩))] 250)).blk hp]
    have hq3 : (w6.alloc (.cells #[.iface 134 (.pointer (some ⟨b, 0, none⟩))] 250)).cell? ⟨w.heap.size + 1, 0, none⟩ = some .nilIface := by simp [World.cell?, (Kept.alloc w6 (.cells #[.iface 134 (.pointer (some ⟨b, 0, none⟩))] 250)).blk hq]
    have cp : w''.cell? ⟨w.heap.size, 0, none⟩ = some .nilIface := by
      rw [hww, World.cell?_setCell_other _ _ _ _ (by simp)]
      exact World.cell?_setCell_same _ _ _ hp3
    have cq : w''.cell? ⟨w.heap.size + 1, 0, none⟩ = some (.iface 134 (.pointer (some ⟨b, 0, none⟩))) := by
      rw [hww]
      refine World.cell?_setCell_same _ _ _ (u := .nilIface) ?_
      rw [World.cell?_setCell_other _ _ _ _ (by simp)]
      exact hq3
    have hX : ∀ k o, w.heap.size + 2 ≤ k → w6.heap[k]? = some o → w''.heap[k]? = some o := by
      intro k o hk ho
      rw [hww]
      exact (Below.heap_setCell _ _ _ k (by intro z; simp at z; omega)).trans ((Below.heap_setCell _ _ _ k (by intro z; simp at z; omega)).trans ((Kept.alloc w6 _).blk ho))
    clear hww
    have FIN : Hid _ := HSYN.out b _ _ hK hn (hX b _ hbb hb4)
    simp [Leaves, settle, results, Tryz.results80, go_sem, cp, cq]
    exact FIN.out
end Go.Proofs.YtleenphlgbklmaaGreatDoor

namespace Go.Proofs.YtleenphlgbklmaaGreatDoor
open Go.RowKit

/-- what a type is made of: a variable, a list, a pair, a function. -/
inductive Kd where
  | vr | ls | pr | ar
/-- a type, as it stands in another: int, bool, or a node of the store. -/
inductive TR where
  | int | bool | nd (k : Kd) (i : Nat)
inductive NK where
  | vr (nm : ByteArray) (g : Bool) | ls (x : TR) | pr (x y : TR) | ar (x y : TR)
/-- a node: what it is made of, and what it was found to be. -/
structure Nd where
  k : NK
  s : Option TR
abbrev St := List Nd
def NK.kd : NK → Kd
  | .vr _ _ => .vr
  | .ls _ => .ls
  | .pr _ _ => .pr
  | .ar _ _ => .ar
def Kd.eqb : Kd → Kd → Bool
  | .vr, .vr => true
  | .ls, .ls => true
  | .pr, .pr => true
  | .ar, .ar => true
  | _, _ => false
def TR.eqb : TR → TR → Bool
  | .int, .int => true
  | .bool, .bool => true
  | .nd k i, .nd l j => k.eqb l && i == j
  | _, _ => false
theorem Kd.eqb_iff {a b : Kd} : a.eqb b = true ↔ a = b := by cases a <;> cases b <;> simp [Kd.eqb]
theorem TR.eqb_iff {a b : TR} : a.eqb b = true ↔ a = b := by cases a <;> cases b <;> simp [TR.eqb, Kd.eqb_iff]
theorem TR.eqb_ff {a b : TR} : a.eqb b = false ↔ a ≠ b := by
  rw [← Bool.not_eq_true, TR.eqb_iff]

/-- what a type was found to be. -/
inductive Rp (σ : St) : TR → TR → Prop
  | int : Rp σ .int .int
  | bool : Rp σ .bool .bool
  | root (i : Nat) (nk : NK) : σ[i]? = some ⟨nk, none⟩ → Rp σ (.nd nk.kd i) (.nd nk.kd i)
  | step (i : Nat) (nk : NK) (r r0 : TR) : σ[i]? = some ⟨nk, some r⟩ → Rp σ r r0 → Rp σ (.nd nk.kd i) r0
theorem Rp.det {σ : St} {r a b : TR} (h : Rp σ r a) (g : Rp σ r b) : a = b := by
  induction h with
  | int => cases g; rfl
  | bool => cases g; rfl
  | root i nk h1 =>
    generalize hx : TR.nd nk.kd i = x at g
    cases g with
    | int => cases hx
    | bool => cases hx
    | root j mk h2 => rfl
    | step j mk r r0 h2 _ =>
      simp only [TR.nd.injEq] at hx
      rw [hx.2, h2] at h1
      simp at h1
  | step i nk r r0 h1 _ ih =>
    generalize hx : TR.nd nk.kd i = x at g
    cases g with
    | int => cases hx
    | bool => cases hx
    | root j mk h2 =>
      simp only [TR.nd.injEq] at hx
      rw [hx.2, h2] at h1
      simp at h1
    | step j mk r' r0' h2 h3 =>
      simp only [TR.nd.injEq] at hx
      rw [hx.2, h2] at h1
      simp at h1
      rw [h1.2] at h3
      exact ih h3
theorem Rp.root_of {σ : St} {r r0 : TR} (h : Rp σ r r0) : Rp σ r0 r0 := by
  induction h with
  | int => exact .int
  | bool => exact .bool
  | root i nk h => exact .root i nk h
  | step i nk r r0 _ _ ih => exact ih
theorem Rp.rt {σ : St} {r : TR} {k : Kd} {i : Nat} (h : Rp σ r (.nd k i)) : ∃ nk, nk.kd = k ∧ σ[i]? = some ⟨nk, none⟩ := by
  generalize hx : TR.nd k i = x at h
  induction h with
  | int => cases hx
  | bool => cases hx
  | root j nk h1 =>
    simp only [TR.nd.injEq] at hx
    rw [hx.1, hx.2]
    exact ⟨nk, rfl, h1⟩
  | step _ _ _ _ _ _ ih => exact ih hx

/-- the same store, but for how long the ways are to what was found. -/
structure Ev (σ τ : St) : Prop where
  len : τ.length = σ.length
  kk : ∀ (i : Nat) (nk : NK) (s : Option TR), σ[i]? = some ⟨nk, s⟩ → ∃ s' : Option TR, τ[i]? = some ⟨nk, s'⟩ ∧ s'.isSome = s.isSome
  rp : ∀ r r0, Rp σ r r0 → Rp τ r r0
theorem Ev.refl (σ : St) : Ev σ σ := ⟨rfl, fun _ _ s h => ⟨s, h, rfl⟩, fun _ _ h => h⟩
theorem Ev.trans {a b c : St} (h : Ev a b) (g : Ev b c) : Ev a c := ⟨g.len.trans h.len, fun i nk s q => by
    obtain ⟨s1, q1, e1⟩ := h.kk i nk s q
    obtain ⟨s2, q2, e2⟩ := g.kk i nk s1 q1
    exact ⟨s2, q2, e2.trans e1⟩, fun r r0 q => g.rp _ _ (h.rp _ _ q)⟩
theorem Ev.root {σ τ : St} (h : Ev σ τ) {i : Nat} {nk : NK} (q : σ[i]? = some ⟨nk, none⟩) : τ[i]? = some ⟨nk, none⟩ := by
  obtain ⟨s, h1, h2⟩ := h.kk i nk none q
  cases s with
  | none => exact h1
  | some _ => simp at h2
/-- a way is made short. -/
theorem Rp.short {τ : St} {i : Nat} {nk : NK} {r r0 : TR} (h : τ[i]? = some ⟨nk, some r⟩) (hr : Rp τ r r0) : Ev τ (τ.set i ⟨nk, some r0⟩) := by
  have hi := (List.getElem?_eq_some_iff.1 h).1
  have hroot : ∀ (j : Nat) (mk : NK), τ[j]? = some ⟨mk, none⟩ → (τ.set i ⟨nk, some r0⟩)[j]? = some ⟨mk, none⟩ := fun j mk hj => by
    rw [List.getElem?_set_ne (fun e => by rw [e, hj] at h; simp at h)]
    exact hj
  have hr0 : Rp (τ.set i ⟨nk, some r0⟩) r0 r0 := by
    cases r0 with
    | int => exact .int
    | bool => exact .bool
    | nd k j =>
      obtain ⟨mk, rfl, hj⟩ := hr.rt
      exact .root j mk (hroot j mk hj)
  refine ⟨by simp, ?_, ?_⟩
  · intro j mk s hj
    by_cases e : i = j
    · subst e
      rw [h] at hj
      simp at hj
      obtain ⟨rfl, rfl⟩ := hj
      exact ⟨some r0, by simp [hi], rfl⟩
    · exact ⟨s, by rw [List.getElem?_set_ne e]; exact hj, rfl⟩
  · intro a b hab
    induction hab with
    | int => exact .int
    | bool => exact .bool
    | root j mk hj => exact .root j mk (hroot j mk hj)
    | step j mk a b hj hab ih =>
      by_cases e : i = j
      · subst e
        rw [h] at hj
        simp at hj
        obtain ⟨rfl, rfl⟩ := hj
        rw [hab.det hr]
        exact .step i nk r0 r0 (by simp [hi]) hr0
      · exact .step j mk a b (by rw [List.getElem?_set_ne e]; exact hj) ih
theorem get_snoc {σ : St} {n : Nd} {i : Nat} {x : Nd} (h : σ[i]? = some x) : (σ ++ [n])[i]? = some x := by
  rw [List.getElem?_append_left (List.getElem?_eq_some_iff.1 h).1]
  exact h
theorem Rp.up {σ : St} {r r0 : TR} (h : Rp σ r r0) (u : St) : Rp (σ ++ u) r r0 := by
  have g : ∀ (i : Nat) (x : Nd), σ[i]? = some x → (σ ++ u)[i]? = some x := fun i x h => by
    rw [List.getElem?_append_left (List.getElem?_eq_some_iff.1 h).1]
    exact h
  induction h with
  | int => exact .int
  | bool => exact .bool
  | root i nk h1 => exact .root i nk (g _ _ h1)
  | step i nk r r0 h1 _ ih => exact .step i nk r r0 (g _ _ h1) ih
end Go.Proofs.YtleenphlgbklmaaGreatDoor

namespace Go.Proofs.YtleenphlgbklmaaGreatDoor
open Go.RowKit

def Kd.tp : Kd → TypeId
  | .vr => 216
  | .ls => 222
  | .pr => 226
  | .ar => 230
/-- a type's value, by where the nodes lie. -/
def RV (ad : List Nat) : TR → Value → Prop
  | .int, v => v = .iface 343 (.agg #[.string { data := #[105, 110, 116] }])
  | .bool, v => v = .iface 343 (.agg #[.string { data := #[98, 111, 111, 108] }])
  | .nd k i, v => ∃ b, ad[i]? = some b ∧ v = .iface k.tp (.pointer (some ⟨b, 0, none⟩))
def SV (ad : List Nat) : Option TR → Value → Prop
  | none, v => v = .nilIface
  | some r, v => RV ad r v
/-- a node's block. -/
def NBk (ad : List Nat) : NK → Value → Obj → Prop
  | .vr nm g, s, o => o = .cells #[s, .string nm, .bool g] 221 (0, 0)
  | .ls x, s, o => ∃ p, RV ad x p ∧ o = .cells #[s, p] 225 (0, 0)
  | .pr x y, s, o => ∃ p q, RV ad x p ∧ RV ad y q ∧ o = .cells #[s, p, q] 229 (0, 0)
  | .ar x y, s, o => ∃ p q, RV ad x p ∧ RV ad y q ∧ o = .cells #[s, p, q] 233 (0, 0)
/-- the store lies in memory. -/
structure SW (w : World) (ad : List Nat) (τ : St) : Prop where
  len : ad.length = τ.length
  inj : ad.Nodup
  blk : ∀ (i : Nat) (nk : NK) (s : Option TR) (b : Nat), τ[i]? = some ⟨nk, s⟩ → ad[i]? = some b → ∃ sv o, w.heap[b]? = some o ∧ SV ad s sv ∧ NBk ad nk sv o
def TB (o : Obj) : Prop := ∃ cs e f, o = .cells cs e f ∧ (e = 221 ∨ e = 225 ∨ e = 229 ∨ e = 233)
/-- all that lay there is as it was, but for the blocks of S, and what was found out about the store's types. -/
structure Kt (ad : List Nat) (S : Nat → Prop) (w w' : World) : Prop where
  os : w'.os = w.os
  output : w'.output = w.output
  size : w.heap.size ≤ w'.heap.size
  blk0 : ∀ (k : Nat) (o : Obj), w.heap[k]? = some o → ¬ S k → (TB o → ¬ k ∈ ad) → w'.heap[k]? = some o
theorem Kt.blk {ad : List Nat} {S : Nat → Prop} {w w' : World} (h : Kt ad S w w') (k : Nat) (o : Obj) (hk : w.heap[k]? = some o) (hn : ¬ S k) (ht : ¬ TB o) : w'.heap[k]? = some o := h.blk0 k o hk hn (fun z => absurd z ht)
theorem Kt.refl (ad : List Nat) (S : Nat → Prop) (w : World) : Kt ad S w w := ⟨rfl, rfl, Nat.le_refl _, fun _ _ h _ _ => h⟩
theorem Kt.trans {ad : List Nat} {S : Nat → Prop} {a b c : World} (h : Kt ad S a b) (k : Kt ad S b c) : Kt ad S a c :=
  ⟨k.os.trans h.os, k.output.trans h.output, Nat.le_trans h.size k.size, fun q o hq hs ht => k.blk0 q o (h.blk0 q o hq hs ht) hs ht⟩
theorem Kt.then {ad ad' : List Nat} {S : Nat → Prop} {a b c : World} (h : Kt ad S a b) (k : Kt ad' S b c) (hn : ∀ q, q ∈ ad' → q ∈ ad ∨ a.heap.size ≤ q) : Kt ad S a c :=
  ⟨k.os.trans h.os, k.output.trans h.output, Nat.le_trans h.size k.size, fun q o hq hs ht => k.blk0 q o (h.blk0 q o hq hs ht) hs (fun z y => by
    rcases hn q y with e | e
    · exact ht z e
    · have := lt_of_block hq
      omega)⟩
theorem Kt.mono {ad : List Nat} {S T : Nat → Prop} {a b : World} (h : Kt ad S a b) (hs : ∀ q, q < a.heap.size → S q → T q) : Kt ad T a b :=
  ⟨h.os, h.output, h.size, fun q o hq hn ht => h.blk0 q o hq (fun x => hn (hs q (lt_of_block hq) x)) ht⟩
theorem Kt.of_kq {ad : List Nat} {S : Nat → Prop} {a b : World} (h : Kq S a b) : Kt ad S a b := ⟨h.os, h.output, h.size, fun q _ hq hn _ => (h.block q (lt_of_block hq) hn).trans hq⟩
theorem Kt.of_kp {ad : List Nat} {S : Nat → Prop} {a b : World} (h : Kp S a b) : Kt ad S a b := ⟨h.os, h.output, h.size, fun _ _ hq hn _ => h.blk hq hn⟩
theorem Kt.of_kept {ad : List Nat} {S : Nat → Prop} {a b : World} (h : Kept a b) : Kt ad S a b := ⟨h.os, h.output, h.size, fun _ _ hq _ _ => h.blk hq⟩
/-- where the store and the rest are new, all is kept. -/
theorem Kt.kept {ad : List Nat} {S : Nat → Prop} {a b : World} (h : Kt ad S a b) (hS : ∀ q, q < a.heap.size → ¬ S q) (hA : ∀ q, q ∈ ad → a.heap.size ≤ q) : Kept a b := ⟨h.os, h.output, h.size, fun q hq => by
  have e : a.heap[q]? = some a.heap[q] := by simp
  rw [e]
  exact h.blk0 q _ e (hS q hq) (fun _ z => by have := hA q z; omega)⟩
theorem RV.up {ad : List Nat} {r : TR} {v : Value} (h : RV ad r v) (u : List Nat) : RV (ad ++ u) r v := by
  cases r with
  | int => exact h
  | bool => exact h
  | nd k i =>
    obtain ⟨b, h1, h2⟩ := h
    exact ⟨b, by rw [List.getElem?_append_left (List.getElem?_eq_some_iff.1 h1).1]; exact h1, h2⟩
theorem RV.det {ad : List Nat} {r : TR} {v v' : Value} (h : RV ad r v) (g : RV ad r v') : v = v' := by
  cases r with
  | int => exact h.trans g.symm
  | bool => exact h.trans g.symm
  | nd k i =>
    obtain ⟨b, h1, h2⟩ := h
    obtain ⟨c, g1, g2⟩ := g
    rw [h1] at g1
    simp at g1
    rw [h2, g2, g1]
theorem RV.iface {ad : List Nat} {r : TR} {v : Value} (h : RV ad r v) : ∃ T u, v = .iface T u := by
  cases r with
  | int => exact ⟨_, _, h⟩
  | bool => exact ⟨_, _, h⟩
  | nd k i =>
    obtain ⟨b, h1, h2⟩ := h
    exact ⟨_, _, h2⟩
theorem SV.up {ad : List Nat} {s : Option TR} {v : Value} (h : SV ad s v) (u : List Nat) : SV (ad ++ u) s v := by
  cases s with
  | none => exact h
  | some r => exact RV.up h u
theorem NBk.up {ad : List Nat} {nk : NK} {s : Value} {o : Obj} (h : NBk ad nk s o) (u : List Nat) : NBk (ad ++ u) nk s o := by
  cases nk with
  | vr nm g => exact h
  | ls x => obtain ⟨p, h1, h2⟩ := h; exact ⟨p, h1.up u, h2⟩
  | pr x y => obtain ⟨p, q, h1, h2, h3⟩ := h; exact ⟨p, q, h1.up u, h2.up u, h3⟩
  | ar x y => obtain ⟨p, q, h1, h2, h3⟩ := h; exact ⟨p, q, h1.up u, h2.up u, h3⟩
theorem NBk.tb {ad : List Nat} {nk : NK} {s : Value} {o : Obj} (h : NBk ad nk s o) : TB o := by
  cases nk with
  | vr nm g => exact ⟨_, _, _, h, .inl rfl⟩
  | ls x => obtain ⟨p, h1, h2⟩ := h; exact ⟨_, _, _, h2, .inr (.inl rfl)⟩
  | pr x y => obtain ⟨p, q, h1, h2, h3⟩ := h; exact ⟨_, _, _, h3, .inr (.inr (.inl rfl))⟩
  | ar x y => obtain ⟨p, q, h1, h2, h3⟩ := h; exact ⟨_, _, _, h3, .inr (.inr (.inr rfl))⟩
/-- the node's first cell: what it was found to be. -/
theorem NBk.first {ad : List Nat} {nk : NK} {s : Value} {o : Obj} (h : NBk ad nk s o) : ∃ cs e, o = .cells cs e (0, 0) ∧ cs[0]? = some s ∧ ∀ s', NBk ad nk s' (.cells (cs.set! 0 s') e (0, 0)) := by
  cases nk with
  | vr nm g => exact ⟨_, _, h, rfl, fun s' => rfl⟩
  | ls x => obtain ⟨p, h1, h2⟩ := h; exact ⟨_, _, h2, rfl, fun s' => ⟨p, h1, rfl⟩⟩
  | pr x y => obtain ⟨p, q, h1, h2, h3⟩ := h; exact ⟨_, _, h3, rfl, fun s' => ⟨p, q, h1, h2, rfl⟩⟩
  | ar x y => obtain ⟨p, q, h1, h2, h3⟩ := h; exact ⟨_, _, h3, rfl, fun s' => ⟨p, q, h1, h2, rfl⟩⟩
theorem NBk.cell {ad : List Nat} {nk : NK} {s : Value} {o : Obj} {w : World} {b : Nat} (h : NBk ad nk s o) (hb : w.heap[b]? = some o) : w.cell? ⟨b, 0, none⟩ = some s := by
  obtain ⟨cs, e, rfl, h1, _⟩ := h.first
  simp [World.cell?, hb, h1]
theorem SW.keep {w w' : World} {ad : List Nat} {τ : St} (h : SW w ad τ) (hk : ∀ b o, b ∈ ad → w.heap[b]? = some o → w'.heap[b]? = some o) : SW w' ad τ :=
  ⟨h.len, h.inj, fun i nk s b h1 h2 => by
    obtain ⟨sv, o, h3, h4, h5⟩ := h.blk i nk s b h1 h2
    exact ⟨sv, o, hk b o (List.mem_of_getElem? h2) h3, h4, h5⟩⟩
theorem SW.mem {w : World} {ad : List Nat} {τ : St} (h : SW w ad τ) {b : Nat} (hb : b ∈ ad) : ∃ (i : Nat) (nk : NK) (s : Option TR) (sv : Value) (o : Obj), τ[i]? = some ⟨nk, s⟩ ∧ ad[i]? = some b ∧ w.heap[b]? = some o ∧ SV ad s sv ∧ NBk ad nk sv o := by
  obtain ⟨i, hi⟩ := List.getElem?_of_mem hb
  have hlt := (List.getElem?_eq_some_iff.1 hi).1
  have : i < τ.length := h.len ▸ hlt
  obtain ⟨sv, o, h3, h4, h5⟩ := h.blk i (τ[i]).k (τ[i]).s b (by simp [this]) hi
  exact ⟨i, (τ[i]).k, (τ[i]).s, sv, o, by simp [this], hi, h3, h4, h5⟩
theorem SW.tb {w : World} {ad : List Nat} {τ : St} (h : SW w ad τ) {b : Nat} (hb : b ∈ ad) : ∃ o, w.heap[b]? = some o ∧ TB o := by
  obtain ⟨i, nk, s, sv, o, _, _, h3, _, h5⟩ := h.mem hb
  exact ⟨o, h3, h5.tb⟩
/-- a node was found to be another type. -/
theorem SW.found {w : World} {ad : List Nat} {τ : St} (h : SW w ad τ) {i b : Nat} {nk : NK} {s : Option TR} {r : TR} {v : Value} (hi : τ[i]? = some ⟨nk, s⟩) (hb : ad[i]? = some b) (hv : RV ad r v) : SW (w.setCell ⟨b, 0, none⟩ v) ad (τ.set i ⟨nk, some r⟩) := by
  refine ⟨by simp [h.len], h.inj, ?_⟩
  intro j mk s' c hj hc
  by_cases e : i = j
  · subst e
    rw [hb] at hc
    simp at hc
    subst hc
    have hlt := (List.getElem?_eq_some_iff.1 hi).1
    simp [hlt] at hj
    obtain ⟨rfl, rfl⟩ := hj
    obtain ⟨sv, o, h3, h4, h5⟩ := h.blk i nk s b hi hb
    obtain ⟨cs, ty, rfl, h6, h7⟩ := h5.first
    refine ⟨v, _, ?_, hv, h7 v⟩
    simp [World.setCell, h3, Array.getElem?_modify]
  · rw [List.getElem?_set_ne e] at hj
    obtain ⟨sv, o, h3, h4, h5⟩ := h.blk j mk s' c hj hc
    refine ⟨sv, o, ?_, h4, h5⟩
    rw [Below.heap_setCell _ _ _ _ (fun z => ?_)]
    · exact h3
    · have z : c = b := z
      have e1 := (List.getElem?_eq_some_iff.1 hb)
      have e2 := (List.getElem?_eq_some_iff.1 hc)
      obtain ⟨l1, e1⟩ := e1
      obtain ⟨l2, e2⟩ := e2
      have hp := List.pairwise_iff_getElem.1 h.inj
      rcases Nat.lt_trichotomy i j with q | q | q
      · exact hp i j l1 l2 q (by rw [e1, e2, z])
      · exact e q
      · exact hp j i l2 l1 q (by rw [e1, e2, z])
theorem Kt.setT {ad : List Nat} {S : Nat → Prop} {w : World} {b : Nat} {o : Obj} (hb : w.heap[b]? = some o) (ht : TB o) (ha : b ∈ ad) (c : Nat) (v : Value) : Kt ad S w (w.setCell ⟨b, c, none⟩ v) := by
  refine ⟨rfl, rfl, by simp, ?_⟩
  intro k o' hk _ hn
  rw [Below.heap_setCell _ _ _ _ (fun z => ?_)]
  · exact hk
  · have z : k = b := z
    rw [z, hb] at hk
    simp at hk
    exact hn (hk ▸ ht) (z ▸ ha)
theorem Tryz.fAny (k : Kd) (b : Nat) (w : World) : (Go.method 538 k.tp (.pointer (some ⟨b, 0, none⟩)) "schemes/infer.finding").run Tryz.prog w = .ok (280, .pointer (some ⟨b, 0, none⟩)) w := by
  cases k
  · exact Tryz.fVar b w
  · exact Tryz.fList b w
  · exact Tryz.fPair b w
  · exact Tryz.fArr b w
set_option maxRecDepth 20000 in
set_option maxHeartbeats 1000000 in
theorem find_ptr (b : Nat) (w : World) : Calls Tryz.prog 280 #[.pointer (some ⟨b, 0, none⟩)] w fun e w' => e = .returned (.pointer (some ⟨b, 0, none⟩)) ∧ w' = w := by
  go_enter Tryz.func280, Tryz.ntmps280
  go_wp2
  go_ret
  exact ⟨rfl, rfl⟩
set_option maxRecDepth 20000 in
set_option maxHeartbeats 1000000 in
theorem known_sw (ad : List Nat) {τ : St} {r r0 : TR} (h : Rp τ r r0) : ∀ (w : World) (v : Value), SW w ad τ → RV ad r v →
    Calls Tryz.prog 182 #[v] w fun e w' => ∃ v0 τ', e = .returned v0 ∧ RV ad r0 v0 ∧ SW w' ad τ' ∧ Ev τ τ' ∧ Kt ad (fun _ => False) w w' := by
  induction h with
  | int =>
    intro w v hs hv
    rw [show v = _ from hv]
    refine (known_base _ w).mono ?_
    rintro e w' ⟨rfl, hk⟩
    exact ⟨_, τ, rfl, rfl, hs.keep (fun b o _ hb => hk.blk hb id), Ev.refl _, Kt.of_kp hk⟩
  | bool =>
    intro w v hs hv
    rw [show v = _ from hv]
    refine (known_base _ w).mono ?_
    rintro e w' ⟨rfl, hk⟩
    exact ⟨_, τ, rfl, rfl, hs.keep (fun b o _ hb => hk.blk hb id), Ev.refl _, Kt.of_kp hk⟩
  | root i nk hi =>
    intro w v hs hv
    obtain ⟨b, hb, rfl⟩ := hv
    obtain ⟨sv, o, h1, h2, h3⟩ := hs.blk i nk none b hi hb
    rw [show sv = _ from h2] at h3
    refine (known_ptr _ b w (Tryz.fAny _ b w) (h3.cell h1)).mono ?_
    rintro e w' ⟨rfl, rfl⟩
    exact ⟨_, τ, rfl, ⟨b, hb, rfl⟩, hs, Ev.refl _, Kt.refl _ _ _⟩
  | step i nk r r0 hi hr ih =>
    intro w v hs hv
    obtain ⟨b, hb, rfl⟩ := hv
    obtain ⟨sv, o, h1, h2, h3⟩ := hs.blk i nk (some r) b hi hb
    have h2 : RV ad r sv := h2
    obtain ⟨T, u, rfl⟩ := h2.iface
    have c0 := h3.cell h1
    have hm := Tryz.fAny nk.kd b w
    have HI : Hid _ := ih w _ hs h2
    have HF : Hid _ := find_ptr b w
    have FIN : Hid (∀ (w1 : World) (τ1 : St) (v0 : Value), SW w1 ad τ1 → Ev τ τ1 → Kt ad (fun _ => False) w w1 → RV ad r0 v0 → (∃ x, w1.frozen? ⟨b, 0, none⟩ = false ∧ w1.cell? ⟨b, 0, none⟩ = some x) ∧ SW (w1.setCell ⟨b, 0, none⟩ v0) ad (τ1.set i ⟨nk, some r0⟩) ∧ Ev τ (τ1.set i ⟨nk, some r0⟩) ∧ Kt ad (fun _ => False) w (w1.setCell ⟨b, 0, none⟩ v0)) := by
      intro w1 τ1 v0 hs1 he1 hk1 hv0
      obtain ⟨s', q1, q2⟩ := he1.kk i nk _ hi
      cases s' with
      | none => simp at q2
      | some r1 =>
        obtain ⟨sv1, o1, g1, g2, g3⟩ := hs1.blk i nk (some r1) b q1 hb
        have hrr := he1.rp _ _ (Rp.step i nk r r0 hi hr)
        have hr1 : Rp τ1 r1 r0 := by
          generalize hx : TR.nd nk.kd i = x at hrr
          cases hrr with
          | int => cases hx
          | bool => cases hx
          | root j mk hj =>
            simp only [TR.nd.injEq] at hx
            rw [← hx.2, q1] at hj
            simp at hj
          | step j mk r2 r3 hj h5 =>
            simp only [TR.nd.injEq] at hx
            rw [← hx.2, q1] at hj
            simp at hj
            rw [hj.2]
            exact h5
        obtain ⟨cs, ty, rfl, _, _⟩ := g3.first
        exact ⟨⟨_, by simp [World.frozen?, g1], g3.cell g1⟩, hs1.found q1 hb hv0, he1.trans (Rp.short q1 hr1), hk1.trans (Kt.setT g1 g3.tb (List.mem_of_getElem? hb) _ _)⟩
    clear ih hs h1 h3
    go_enter Tryz.func182, Tryz.ntmps182
    go_wp2_with fail
    refine Calls.mono HF.out ?_
    rintro e w' ⟨rfl, hww⟩
    rw [hww]
    clear hww w' HF
    go_wp2_with fail
    refine Calls.mono HI.out ?_
    rintro e w1 ⟨v0, τ1, rfl, hv0, hs1, he1, hk1⟩
    obtain ⟨T0, u0, rfl⟩ := hv0.iface
    obtain ⟨⟨x, hxb, hx⟩, f1, f2, f3⟩ := FIN.out w1 τ1 _ hs1 he1 hk1 hv0
    clear FIN HI hs1
    go_wp2
    go_ret
    exact ⟨_, _, rfl, hv0, f1, f2, f3⟩
end Go.Proofs.YtleenphlgbklmaaGreatDoor

namespace Go.Proofs.YtleenphlgbklmaaGreatDoor
open Go.RowKit

theorem eq_ptr (T E : TypeId) (n : Nat) (hu : Tryz.prog.underlying T = some (.pointer E)) (hs : (Tryz.prog.info? E).map (·.size) = some (n + 1)) (hc : (Tryz.prog.info? T).map (·.comparable) = some true) (w : World) (b c : Nat) (hb : ∃ cs e, w.heap[b]? = some (.cells cs e (0, 0))) (hd : ∃ cs e, w.heap[c]? = some (.cells cs e (0, 0))) :
    (Op.equal 156 (.iface T (.pointer (some ⟨b, 0, none⟩))) (.iface T (.pointer (some ⟨c, 0, none⟩)))).run Tryz.prog w = .ok (b == c) w := by
  obtain ⟨j, hj, hjs⟩ := Option.map_eq_some_iff.1 hs
  obtain ⟨i, hi, his⟩ := Option.map_eq_some_iff.1 hc
  obtain ⟨cs, e, hb⟩ := hb
  obtain ⟨cs', e', hd⟩ := hd
  have h : ∀ d : Nat, (Op.equalIn (d + 1) T (.pointer (some ⟨b, 0, none⟩)) (.pointer (some ⟨c, 0, none⟩))).run Tryz.prog w = .ok (b == c) w := fun d => by
    by_cases e : b = c
    · subst e
      simp [Op.equalIn, run_underlying hu, sizeOf, typeInfo, hj, hjs, run_sameAddr_same]
    · have ho := run_sameAddr_other (P := Tryz.prog) (w := w) (a := ⟨b, 0, none⟩) (b := ⟨c, 0, none⟩) (fun q => e (congrArg Addr.block q)) hb hd
      simp [Op.equalIn, run_underlying hu, sizeOf, typeInfo, hj, hjs, ho, e]
  have h2 : ∀ d : Nat, (Op.equalIn (d + 2) 156 (.iface T (.pointer (some ⟨b, 0, none⟩))) (.iface T (.pointer (some ⟨c, 0, none⟩)))).run Tryz.prog w = .ok (b == c) w := fun d => by
    rw [show d + 2 = (d + 1) + 1 from rfl]
    rw [Op.equalIn]
    simp [run_underlying Tryz.underlying156, typeInfo, hi, his, h d]
  exact h2 9998
theorem eq_kd (k : Kd) (w : World) (b c : Nat) (hb : ∃ cs e, w.heap[b]? = some (.cells cs e (0, 0))) (hd : ∃ cs e, w.heap[c]? = some (.cells cs e (0, 0))) :
    (Op.equal 156 (.iface k.tp (.pointer (some ⟨b, 0, none⟩))) (.iface k.tp (.pointer (some ⟨c, 0, none⟩)))).run Tryz.prog w = .ok (b == c) w := by
  cases k
  · exact eq_ptr _ 221 2 (by kernel_rfl) (by kernel_rfl) (by kernel_rfl) w b c hb hd
  · exact eq_ptr _ 225 1 (by kernel_rfl) (by kernel_rfl) (by kernel_rfl) w b c hb hd
  · exact eq_ptr _ 229 2 (by kernel_rfl) (by kernel_rfl) (by kernel_rfl) w b c hb hd
  · exact eq_ptr _ 233 2 (by kernel_rfl) (by kernel_rfl) (by kernel_rfl) w b c hb hd
theorem eq_no (T U : TypeId) (h : T ≠ U) (x y : Value) (w : World) : (Op.equal 156 (.iface T x) (.iface U y)).run Tryz.prog w = .ok false w := by
  have h2 : ∀ d : Nat, (Op.equalIn (d + 1) 156 (.iface T x) (.iface U y)).run Tryz.prog w = .ok false w := fun d => by
    rw [Op.equalIn]
    simp [run_underlying Tryz.underlying156, h]
  exact h2 9999
theorem Tryz.eqII (w : World) : (Op.equal 156 (.iface 343 (.agg #[.string { data := #[105, 110, 116] }])) (.iface 343 (.agg #[.string { data := #[105, 110, 116] }]))).run Tryz.prog w = .ok true w := by kernel_rfl
theorem Tryz.eqIB (w : World) : (Op.equal 156 (.iface 343 (.agg #[.string { data := #[105, 110, 116] }])) (.iface 343 (.agg #[.string { data := #[98, 111, 111, 108] }]))).run Tryz.prog w = .ok false w := by kernel_rfl
theorem Tryz.eqBI (w : World) : (Op.equal 156 (.iface 343 (.agg #[.string { data := #[98, 111, 111, 108] }])) (.iface 343 (.agg #[.string { data := #[105, 110, 116] }]))).run Tryz.prog w = .ok false w := by kernel_rfl
theorem Tryz.eqBB (w : World) : (Op.equal 156 (.iface 343 (.agg #[.string { data := #[98, 111, 111, 108] }])) (.iface 343 (.agg #[.string { data := #[98, 111, 111, 108] }]))).run Tryz.prog w = .ok true w := by kernel_rfl
theorem Kd.tp_inj {k l : Kd} (h : k ≠ l) : k.tp ≠ l.tp := by cases k <;> cases l <;> first | exact absurd rfl h | (intro e; cases e)
theorem Kd.tp_basic (k : Kd) : k.tp ≠ 343 := by cases k <;> (intro e; cases e)
theorem SW.cells {w : World} {ad : List Nat} {τ : St} (h : SW w ad τ) {i b : Nat} (hb : ad[i]? = some b) : ∃ cs e, w.heap[b]? = some (.cells cs e (0, 0)) := by
  obtain ⟨_, _, _, _, o, _, _, h1, _, h2⟩ := h.mem (List.mem_of_getElem? hb)
  obtain ⟨cs, e, rfl, _⟩ := h2.first
  exact ⟨cs, e, h1⟩
theorem nodup_get {ad : List Nat} (h : ad.Nodup) {i j b : Nat} (hi : ad[i]? = some b) (hj : ad[j]? = some b) : i = j := by
  obtain ⟨l1, e1⟩ := List.getElem?_eq_some_iff.1 hi
  obtain ⟨l2, e2⟩ := List.getElem?_eq_some_iff.1 hj
  have hp := List.pairwise_iff_getElem.1 h
  rcases Nat.lt_trichotomy i j with q | q | q
  · exact (hp i j l1 l2 q (by rw [e1, e2])).elim
  · exact q
  · exact (hp j i l2 l1 q (by rw [e1, e2])).elim
/-- two types are the same value just if they are the same. -/
theorem eq_tr {w : World} {ad : List Nat} {τ : St} (h : SW w ad τ) {r s : TR} {v u : Value} (hv : RV ad r v) (hu : RV ad s u) : (Op.equal 156 v u).run Tryz.prog w = .ok (r.eqb s) w := by
  cases r with
  | int =>
    rw [show v = _ from hv]
    cases s with
    | int => rw [show u = _ from hu]; exact Tryz.eqII w
    | bool => rw [show u = _ from hu]; exact Tryz.eqIB w
    | nd k i => obtain ⟨b, _, rfl⟩ := hu; exact eq_no _ _ k.tp_basic.symm _ _ w
  | bool =>
    rw [show v = _ from hv]
    cases s with
    | int => rw [show u = _ from hu]; exact Tryz.eqBI w
    | bool => rw [show u = _ from hu]; exact Tryz.eqBB w
    | nd k i => obtain ⟨b, _, rfl⟩ := hu; exact eq_no _ _ k.tp_basic.symm _ _ w
  | nd k i =>
    obtain ⟨b, hb, rfl⟩ := hv
    cases s with
    | int => rw [show u = _ from hu]; exact eq_no _ _ k.tp_basic _ _ w
    | bool => rw [show u = _ from hu]; exact eq_no _ _ k.tp_basic _ _ w
    | nd l j =>
      obtain ⟨c, hc, rfl⟩ := hu
      by_cases e : k = l
      · subst e
        rw [eq_kd k w b c (h.cells hb) (h.cells hc)]
        congr 1
        rw [Bool.eq_iff_iff, TR.eqb_iff, beq_iff_eq]
        constructor
        · intro e
          subst e
          rw [nodup_get h.inj hb hc]
        · intro e
          simp only [TR.nd.injEq, true_and] at e
          subst e
          rw [hb] at hc
          simpa using hc
      · rw [eq_no _ _ (Kd.tp_inj e)]
        congr 1
        symm
        rw [TR.eqb_ff]
        intro q
        simp only [TR.nd.injEq] at q
        exact e q.1
theorem ck_tr {w : World} {ad : List Nat} {r : TR} {v : Value} (hv : RV ad r v) (em : Bool) : (Instr.checkKey em 10000 156 v).run Tryz.prog w = .ok () w := by
  cases r with
  | int => rw [show v = _ from hv]; kernel_rfl
  | bool => rw [show v = _ from hv]; kernel_rfl
  | nd k i =>
    obtain ⟨b, _, rfl⟩ := hv
    cases k <;> kernel_rfl
end Go.Proofs.YtleenphlgbklmaaGreatDoor
