import Derived.Test.YtleenphlgbklmabGreatDoorZPStep
import Derived.Test.YtleenphlgbklmabGreatDoorZPRdH
import Derived.Test.YtleenphlgbklmabGreatDoorZPPJ
set_option linter.unusedVariables false
set_option linter.unusedSimpArgs false
namespace Go.Proofs.YtleenphlgbklmabGreatDoor
open Go.RowKit
set_option maxRecDepth 20000 in
theorem pp_throw (R : TypeId → Value → World → Prop) (s : ByteArray) (w : World)
    (HN : Hid (Calls Tryz.prog 50 #[.string s] ((w.alloc (.cells #[.nilIface] 107)).alloc (.cells #[.nilIface] 56)) fun e w' => ∃ T z, e = thrown (.iface T z) ∧ R T z w' ∧ Kept ((w.alloc (.cells #[.nilIface] 107)).alloc (.cells #[.nilIface] 56)) w')) :
    Calls Tryz.prog 46 #[.string s] w fun e w' => ∃ T z w2, e = .returned (.tuple #[.nilIface, .iface T z]) ∧ R T z w2 ∧ Kept w w' ∧ ∀ k o, w.heap.size + 2 ≤ k → w2.heap[k]? = some o → w'.heap[k]? = some o := by
  have hk1 : Kept w ((w.alloc (.cells #[.nilIface] 107)).alloc (.cells #[.nilIface] 56)) := (Kept.alloc _ _).trans (Kept.alloc _ _)
  have hp0 : ((w.alloc (.cells #[.nilIface] 107)).alloc (.cells #[.nilIface] 56)).heap[w.heap.size]? = some (.cells #[.nilIface] 107 (0, 0)) := (Kept.alloc _ _).blk (heap_alloc_new _ _)
  have hq0 : ((w.alloc (.cells #[.nilIface] 107)).alloc (.cells #[.nilIface] 56)).heap[w.heap.size + 1]? = some (.cells #[.nilIface] 56 (0, 0)) := by
    have := heap_alloc_new (w.alloc (.cells #[.nilIface] 107)) (.cells #[.nilIface] 56)
    simpa using this
  go_enter_defers Tryz.func46, Tryz.ntmps46
  go_wp2_with fail
  refine Calls.mono HN.out ?_
  rintro e w2 ⟨T, z, rfl, hR, hk2⟩
  have hp2 := hk2.blk hp0
  have hq2 := hk2.blk hq0
  refine leaves_cons (f := 74) (args := #[.pointer (some ⟨w.heap.size, 0, none⟩), .pointer (some ⟨w.heap.size + 1, 0, none⟩)]) (by simp) (by simp [go_sem]) ?_
  refine (catchE_panicking ⟨w.heap.size, 0, none⟩ ⟨w.heap.size + 1, 0, none⟩ .nilIface .nilIface T z [] w2 ?_ ?_ ?_ ?_ ?_).mono ?_
  · simp [World.cell?, hp2]
  · simp [World.frozen?, hp2]
  · simp [World.cell?, hq2]
  · simp [World.frozen?, hq2]
  · simp
  rintro e u' w'' ⟨rfl, rfl, hww⟩
  have hK : Kept w w'' := by
    have k3 : Kept w (w2.alloc (.cells #[.iface T z] 185)) := (hk1.trans hk2).trans (Kept.alloc _ _)
    rw [hww]
    exact ⟨k3.1, k3.2, by simpa using k3.3, fun q hq => (Below.heap_setCell _ _ _ q (by intro z; simp at z; omega)).trans ((Below.heap_setCell _ _ _ q (by intro z; simp at z; omega)).trans (k3.4 q hq))⟩
  have hp3 : (w2.alloc (.cells #[.iface T z] 185)).cell? ⟨w.heap.size, 0, none⟩ = some .nilIface := by simp [World.cell?, (Kept.alloc w2 (.cells #[.iface T z] 185)).blk hp2]
  have hq3 : (w2.alloc (.cells #[.iface T z] 185)).cell? ⟨w.heap.size + 1, 0, none⟩ = some .nilIface := by simp [World.cell?, (Kept.alloc w2 (.cells #[.iface T z] 185)).blk hq2]
  have cp : w''.cell? ⟨w.heap.size, 0, none⟩ = some .nilIface := by
    rw [hww, World.cell?_setCell_other _ _ _ _ (by simp)]
    exact World.cell?_setCell_same _ _ _ hp3
  have cq : w''.cell? ⟨w.heap.size + 1, 0, none⟩ = some (.iface T z) := by
    rw [hww]
    refine World.cell?_setCell_same _ _ _ (u := .nilIface) ?_
    rw [World.cell?_setCell_other _ _ _ _ (by simp)]
    exact hq3
  have hX : ∀ k o, w.heap.size + 2 ≤ k → w2.heap[k]? = some o → w''.heap[k]? = some o := by
    intro k o hk ho
    rw [hww]
    exact (Below.heap_setCell _ _ _ k (by intro z; simp at z; omega)).trans ((Below.heap_setCell _ _ _ k (by intro z; simp at z; omega)).trans ((Kept.alloc w2 _).blk ho))
  clear hww
  simp [Leaves, settle, results, Tryz.results46, go_sem, cp, cq]
  exact ⟨T, z, ⟨rfl, rfl⟩, w2, hR, hK, hX⟩

theorem lex0 {s : ByteArray} {L : List Tk} (hE : PEnv s wordsL L) : 0 < L.length ∧ (tkAt L 0).loc = run blI s 0 := by
  have hk : ∀ w, w ∈ wordsL → w ≠ { data := #[110, 97, 109, 101] } := fun w hw => (wordsOk.ne w hw).1
  have hp : 0 < L.length := by rw [hE.eq]; exact toks_pos s wordsL
  refine ⟨hp, ?_⟩
  have h := (toks_next s wordsL hk (s.size + 1) 0 (Nat.zero_le _) 0 (by rw [← hE.eq]; exact hp)).1 rfl
  rw [← hE.eq] at h
  rw [h]
  rfl
set_option maxRecDepth 20000 in
set_option maxHeartbeats 1000000 in
theorem pp_main {A : Nat → Addr} {s : ByteArray} {L : List Tk} (hE : PEnv s wordsL L) (w : World) (hG : Glb A w) (n : Nat) (x : X) (K : Nat) (B : Int) (hM : expM L n 0 (-1) = some (x, K, B)) (h0 : (tkAt L 0).is ≠ { data := #[110, 111, 110, 101] }) (R : Ending → World → Prop)
    (hsyn : ∀ (b l : Nat) (w' : World), Kept w w' → needB L { data := #[101, 110, 100] } K B = l → w'.heap[b]? = some (.cells #[.int .i64 l] 94 (0, 0)) → R (.returned (.tuple #[.nilIface, .iface 83 (.pointer (some ⟨b, 0, none⟩))])) w')
    (hdeep : ∀ w' : World, Kept w w' → needB L { data := #[101, 110, 100] } K B < 0 → 40 < dp x → R (.returned (.tuple #[.nilIface, .iface 342 (.pointer (some (A 1)))])) w')
    (hok : ∀ (v : Value) (w' : World), Kept w w' → needB L { data := #[101, 110, 100] } K B < 0 → dp x ≤ 40 → PX w' (fun b => w.heap.size ≤ b) x v → R (.returned (.tuple #[v, .nilIface])) w') :
    Calls Tryz.prog 46 #[.string s] w R := by
  have hk1 : Kept w ((w.alloc (.cells #[.nilIface] 107)).alloc (.cells #[.nilIface] 56)) := (Kept.alloc _ _).trans (Kept.alloc _ _)
  have hp0 : ((w.alloc (.cells #[.nilIface] 107)).alloc (.cells #[.nilIface] 56)).heap[w.heap.size]? = some (.cells #[.nilIface] 107 (0, 0)) := (Kept.alloc _ _).blk (heap_alloc_new _ _)
  have hq0 : ((w.alloc (.cells #[.nilIface] 107)).alloc (.cells #[.nilIface] 56)).heap[w.heap.size + 1]? = some (.cells #[.nilIface] 56 (0, 0)) := by
    have := heap_alloc_new (w.alloc (.cells #[.nilIface] 107)) (.cells #[.nilIface] 56)
    simpa using this
  have hs1 : ((w.alloc (.cells #[.nilIface] 107)).alloc (.cells #[.nilIface] 56)).heap.size = w.heap.size + 2 := by simp
  obtain ⟨hlp, hl0⟩ := lex0 hE
  obtain ⟨kd, hT⟩ := tk_tok hE.kw hE.eq 0 hlp h0
  rw [hl0] at hT
  have HN : Hid _ := pnew_some s ((w.alloc (.cells #[.nilIface] 107)).alloc (.cells #[.nilIface] 56)) hE.sz kd _ _ hT
  have HT : Hid _ := hT
  have HSE : Hid _ := (pread_all hE n).1
  have HM : Hid _ := hM
  have HG : Hid _ := hG
  have HSYN : Hid _ := hsyn
  have HDEEP : Hid _ := hdeep
  have HOK : Hid _ := hok
  clear hM hG hT hsyn hdeep hok
  generalize hW : ((w.alloc (.cells #[.nilIface] 107)).alloc (.cells #[.nilIface] 56)) = W at *
  go_enter_defers Tryz.func46, Tryz.ntmps46
  go_wp2_with fail
  refine Calls.mono HN.out ?_
  rintro e w2 ⟨rfl, hk2, hP2⟩
  have hp2 := hk2.blk hp0
  have hq2 := hk2.blk hq0
  rw [hs1] at hP2
  have PA : PAt w2 (w.heap.size + 2) s L 0 := ⟨⟨kd, by rw [hl0]; exact hP2, by rw [hl0]; exact HT.out⟩, hlp, h0⟩
  have hkr : Kept w2 (w2.alloc (.cells #[.pointer (some ⟨w.heap.size + 2, 0, none⟩)] 174)) := Kept.alloc _ _
  have hrc : (w2.alloc (.cells #[.pointer (some ⟨w.heap.size + 2, 0, none⟩)] 174)).heap[w2.heap.size]? = some (.cells #[.pointer (some ⟨w.heap.size + 2, 0, none⟩)] 174 (0, 0)) := heap_alloc_new _ _
  have hp3 := hkr.blk hp2
  have hq3 := hkr.blk hq2
  have hs2 : w.heap.size + 2 < w2.heap.size := PA.lt'
  have KW3 := (hk1.trans hk2).trans hkr
  have PA3 := PA.kept hkr
  clear HN hP2 PA
  rw [hs1]
  generalize hw3 : w2.alloc (.cells #[.pointer (some ⟨w.heap.size + 2, 0, none⟩)] 174) = w3 at *
  have a3 : w3.cell? ⟨w2.heap.size, 0, none⟩ = some (.pointer (some ⟨w.heap.size + 2, 0, none⟩)) := by simp [World.cell?, hrc]
  have HX : Hid _ := HSE.out w3 (w.heap.size + 2) 0 x K B PA3 HM.out
  go_wp2_with fail
  refine Calls.mono HX.out ?_
  intro e w4 hres
  clear HX
  by_cases hz : 0 ≤ bz L K B
  · obtain ⟨b, he, ⟨l, hl, hbl⟩, hb, kq⟩ := hres.2 hz
    have hb4 : w4.heap[b]? = some (.cells #[.int .i64 l] 94 (0, 0)) := hbl
    have hn : needB L { data := #[101, 110, 100] } K B = l := (need_bz hz (by decide)).2.trans hl
    have hp := (kq.block _ (lt_of_block hp3) (by show ¬ _; omega)).trans hp3
    have hq := (kq.block _ (lt_of_block hq3) (by show ¬ _; omega)).trans hq3
    have KW : Kept w w4 := ⟨kq.os.trans KW3.os, kq.output.trans KW3.output, Nat.le_trans KW3.size kq.size, fun q h1 => (kq.block q (Nat.lt_of_lt_of_le h1 KW3.size) (by show ¬ _; omega)).trans (KW3.block q h1)⟩
    have hbb : w.heap.size + 2 ≤ b := by have := lt_of_block hrc; omega
    rw [he]
    clear he hres kq hp3 hq3
    refine leaves_cons (f := 74) (args := #[.pointer (some ⟨w.heap.size, 0, none⟩), .pointer (some ⟨w.heap.size + 1, 0, none⟩)]) (by simp) (by simp [go_sem]) ?_
    refine (catchE_panicking ⟨w.heap.size, 0, none⟩ ⟨w.heap.size + 1, 0, none⟩ .nilIface .nilIface 83 (.pointer (some ⟨b, 0, none⟩)) [] w4 ?_ ?_ ?_ ?_ ?_).mono ?_
    · simp [World.cell?, hp]
    · simp [World.frozen?, hp]
    · simp [World.cell?, hq]
    · simp [World.frozen?, hq]
    · simp
    rintro e u' w'' ⟨rfl, rfl, hww⟩
    have hK : Kept w w'' := by
      have k3 : Kept w (w4.alloc (.cells #[.iface 83 (.pointer (some ⟨b, 0, none⟩))] 185)) := KW.trans (Kept.alloc _ _)
      rw [hww]
      exact ⟨k3.1, k3.2, by simpa using k3.3, fun q hq => (Below.heap_setCell _ _ _ q (by intro z; simp at z; omega)).trans ((Below.heap_setCell _ _ _ q (by intro z; simp at z; omega)).trans (k3.4 q hq))⟩
    have hp3 : (w4.alloc (.cells #[.iface 83 (.pointer (some ⟨b, 0, none⟩))] 185)).cell? ⟨w.heap.size, 0, none⟩ = some .nilIface := by simp [World.cell?, (Kept.alloc w4 (.cells #[.iface 83 (.pointer (some ⟨b, 0, none⟩))] 185)).blk hp]
    have hq3 : (w4.alloc (.cells #[.iface 83 (.pointer (some ⟨b, 0, none⟩))] 185)).cell? ⟨w.heap.size + 1, 0, none⟩ = some .nilIface := by simp [World.cell?, (Kept.alloc w4 (.cells #[.iface 83 (.pointer (some ⟨b, 0, none⟩))] 185)).blk hq]
    have cp : w''.cell? ⟨w.heap.size, 0, none⟩ = some .nilIface := by
      rw [hww, World.cell?_setCell_other _ _ _ _ (by simp)]
      exact World.cell?_setCell_same _ _ _ hp3
    have cq : w''.cell? ⟨w.heap.size + 1, 0, none⟩ = some (.iface 83 (.pointer (some ⟨b, 0, none⟩))) := by
      rw [hww]
      refine World.cell?_setCell_same _ _ _ (u := .nilIface) ?_
      rw [World.cell?_setCell_other _ _ _ _ (by simp)]
      exact hq3
    have hX : ∀ k o, w.heap.size + 2 ≤ k → w4.heap[k]? = some o → w''.heap[k]? = some o := by
      intro k o hk ho
      rw [hww]
      exact (Below.heap_setCell _ _ _ k (by intro z; simp at z; omega)).trans ((Below.heap_setCell _ _ _ k (by intro z; simp at z; omega)).trans ((Kept.alloc w4 _).blk ho))
    clear hww
    have FIN : Hid _ := HSYN.out b l _ hK hn (hX b _ hbb hb4)
    simp [Leaves, settle, results, Tryz.results46, go_sem, cp, cq]
    exact FIN.out
  obtain ⟨hB, v, he, hv, P4, kq⟩ := hres.1 (by omega)
  have hz' : bz L K B < 0 := by omega
  clear hz hres
  subst he
  have hp := (kq.block _ (lt_of_block hp3) (by show ¬ _; omega)).trans hp3
  have hq := (kq.block _ (lt_of_block hq3) (by show ¬ _; omega)).trans hq3
  have hrc4 := (kq.block _ (lt_of_block hrc) (by show ¬ _; omega)).trans hrc
  have KW : Kept w w4 := ⟨kq.os.trans KW3.os, kq.output.trans KW3.output, Nat.le_trans KW3.size kq.size, fun q h1 => (kq.block q (Nat.lt_of_lt_of_le h1 KW3.size) (by show ¬ _; omega)).trans (KW3.block q h1)⟩
  obtain ⟨T, u, rfl⟩ := hv.iface
  have cp4 : w4.cell? ⟨w.heap.size, 0, none⟩ = some .nilIface := by simp [World.cell?, hp]
  have fp4 : w4.frozen? ⟨w.heap.size, 0, none⟩ = false := by simp [World.frozen?, hp]
  have hw4s := kq.size
  have hw3s : w2.heap.size < w3.heap.size := lt_of_block hrc
  have h5b : ∀ b, b ≠ w.heap.size → (w4.setCell ⟨w.heap.size, 0, none⟩ (.iface T u)).heap[b]? = w4.heap[b]? := fun b hb => Below.heap_setCell _ _ _ b (by intro z; simp at z; omega)
  have hp5 : (w4.setCell ⟨w.heap.size, 0, none⟩ (.iface T u)).heap[w.heap.size]? = some (.cells #[.iface T u] 107 (0, 0)) := by simp [World.setCell, hp, Array.getElem?_modify]
  have hq5 := (h5b (w.heap.size + 1) (by omega)).trans hq
  have hrc5 := (h5b w2.heap.size (by omega)).trans hrc4
  have P5 : PAt (w4.setCell ⟨w.heap.size, 0, none⟩ (.iface T u)) (w.heap.size + 2) s L K := by
    obtain ⟨kd, e1, e2⟩ := P4.ex
    exact ⟨⟨kd, (h5b _ (by omega)).trans e1, e2⟩, P4.lt, P4.nn⟩
  have X5 : PX (w4.setCell ⟨w.heap.size, 0, none⟩ (.iface T u)) (fun b => w3.heap.size ≤ b) x (.iface T u) := hv.keep (fun b h1 _ => h5b b (by have h1 : w3.heap.size ≤ b := h1; omega))
  have KW5 : Kept w (w4.setCell ⟨w.heap.size, 0, none⟩ (.iface T u)) := ⟨KW.1, KW.2, by simpa using KW.3, fun q h1 => (h5b q (by omega)).trans (KW.4 q h1)⟩
  have hs5 : w4.heap.size = (w4.setCell ⟨w.heap.size, 0, none⟩ (.iface T u)).heap.size := by simp
  clear hp hq hrc4 P4 hv KW hrc h5b hp3 hq3 hp2 hq2 hp0 hq0
  generalize hw5 : w4.setCell ⟨w.heap.size, 0, none⟩ (.iface T u) = w5 at *
  have a5 : w5.cell? ⟨w2.heap.size, 0, none⟩ = some (.pointer (some ⟨w.heap.size + 2, 0, none⟩)) := by simp [World.cell?, hrc5]
  have cp5 : w5.cell? ⟨w.heap.size, 0, none⟩ = some (.iface T u) := by simp [World.cell?, hp5]
  obtain ⟨kdK, hr5, hT5⟩ := P5.ex
  have hend := tk_end hE P5.lt hT5
  subst hB
  by_cases hke : kdK = 0
  · have hme : isM L { data := #[101, 110, 100] } K (-1) = true := by rw [isM_same, ← hend, hke]; rfl
    have hneg : needB L { data := #[101, 110, 100] } K (-1) < 0 := by rw [(need_true hme).2]; omega
    have HEN : Hid _ := pexpend_any w5 (w.heap.size + 2) s _ kdK _ hr5 hke
    have hdx := hE.pb.dp HM.out (by omega) P5.lt
    have c1 := (HG.out.kept KW5).c1
    obtain ⟨T', u', e', hm⟩ := X5.dep
    cases e'
    clear hr5 hT5 hend hke
    go_wp2_with fail
    refine Calls.mono HEN.out ?_
    rintro e w' ⟨rfl, hww⟩
    rw [hww]
    clear hww w' HEN
    have HDP : Hid _ := pdep_any (dp x) w5
    go_wp2_with fail
    refine Calls.mono HDP.out ?_
    rintro e w6 ⟨rfl, hk6⟩
    have d1 := hk6.cell c1 (fun z => z)
    have hp := hk6.blk hp5 (fun z => z)
    have hq := hk6.blk hq5 (fun z => z)
    have cp6 : w6.cell? ⟨w.heap.size, 0, none⟩ = some (.iface T u) := by simp [World.cell?, hp]
    have fp6 : w6.frozen? ⟨w.heap.size, 0, none⟩ = false := by simp [World.frozen?, hp]
    have cq6 : w6.cell? ⟨w.heap.size + 1, 0, none⟩ = some .nilIface := by simp [World.cell?, hq]
    have fq6 : w6.frozen? ⟨w.heap.size + 1, 0, none⟩ = false := by simp [World.frozen?, hq]
    have KW : Kept w w6 := KW5.trans ⟨hk6.os, hk6.output, hk6.size, fun q h1 => hk6.block q h1 (fun z => z)⟩
    have X6 := X5.kp hk6
    clear HDP
    by_cases hd : 40 < dp x
    · go_wp2_with (go_at_call 54; refine Calls.mono (prefuse_es _ _) ?_; rintro e w' ⟨he, hww⟩; rw [hww, he]; clear hww he w' e)
      refine leaves_cons (f := 74) (args := #[.pointer (some ⟨w.heap.size, 0, none⟩), .pointer (some ⟨w.heap.size + 1, 0, none⟩)]) (by simp) (by simp [go_sem]) ?_
      refine (catchE_panicking ⟨w.heap.size, 0, none⟩ ⟨w.heap.size + 1, 0, none⟩ (.iface T u) .nilIface 342 (.pointer (some (A 1))) [] w6 ?_ ?_ ?_ ?_ ?_).mono ?_
      · simp [World.cell?, hp]
      · simp [World.frozen?, hp]
      · simp [World.cell?, hq]
      · simp [World.frozen?, hq]
      · simp
      rintro e u' w'' ⟨rfl, rfl, hww⟩
      have hK : Kept w w'' := by
        have k3 : Kept w (w6.alloc (.cells #[.iface 342 (.pointer (some (A 1)))] 185)) := KW.trans (Kept.alloc _ _)
        rw [hww]
        exact ⟨k3.1, k3.2, by simpa using k3.3, fun q hq => (Below.heap_setCell _ _ _ q (by intro z; simp at z; omega)).trans ((Below.heap_setCell _ _ _ q (by intro z; simp at z; omega)).trans (k3.4 q hq))⟩
      have hp3 : (w6.alloc (.cells #[.iface 342 (.pointer (some (A 1)))] 185)).cell? ⟨w.heap.size, 0, none⟩ = some (.iface T u) := by simp [World.cell?, (Kept.alloc w6 (.cells #[.iface 342 (.pointer (some (A 1)))] 185)).blk hp]
      have hq3 : (w6.alloc (.cells #[.iface 342 (.pointer (some (A 1)))] 185)).cell? ⟨w.heap.size + 1, 0, none⟩ = some .nilIface := by simp [World.cell?, (Kept.alloc w6 (.cells #[.iface 342 (.pointer (some (A 1)))] 185)).blk hq]
      have cp : w''.cell? ⟨w.heap.size, 0, none⟩ = some .nilIface := by
        rw [hww, World.cell?_setCell_other _ _ _ _ (by simp)]
        exact World.cell?_setCell_same _ _ _ hp3
      have cq : w''.cell? ⟨w.heap.size + 1, 0, none⟩ = some (.iface 342 (.pointer (some (A 1)))) := by
        rw [hww]
        refine World.cell?_setCell_same _ _ _ (u := .nilIface) ?_
        rw [World.cell?_setCell_other _ _ _ _ (by simp)]
        exact hq3
      have hX : ∀ k o, w.heap.size + 2 ≤ k → w6.heap[k]? = some o → w''.heap[k]? = some o := by
        intro k o hk ho
        rw [hww]
        exact (Below.heap_setCell _ _ _ k (by intro z; simp at z; omega)).trans ((Below.heap_setCell _ _ _ k (by intro z; simp at z; omega)).trans ((Kept.alloc w6 _).blk ho))
      clear hww
      have FIN : Hid _ := HDEEP.out _ hK hneg hd
      simp [Leaves, settle, results, Tryz.results46, go_sem, cp, cq]
      exact FIN.out
    · have h7b : ∀ b, b ≠ w.heap.size → b ≠ w.heap.size + 1 → ((w6.setCell ⟨w.heap.size, 0, none⟩ (.iface T u)).setCell ⟨w.heap.size + 1, 0, none⟩ .nilIface).heap[b]? = w6.heap[b]? := fun b h1 h2 => (Below.heap_setCell _ _ _ b (by intro z; simp at z; omega)).trans (Below.heap_setCell _ _ _ b (by intro z; simp at z; omega))
      have cp : ((w6.setCell ⟨w.heap.size, 0, none⟩ (.iface T u)).setCell ⟨w.heap.size + 1, 0, none⟩ .nilIface).cell? ⟨w.heap.size, 0, none⟩ = some (.iface T u) := by
        rw [World.cell?_setCell_other _ _ _ _ (by simp)]
        exact World.cell?_setCell_same _ _ _ cp6
      have cq : ((w6.setCell ⟨w.heap.size, 0, none⟩ (.iface T u)).setCell ⟨w.heap.size + 1, 0, none⟩ .nilIface).cell? ⟨w.heap.size + 1, 0, none⟩ = some .nilIface := by
        refine World.cell?_setCell_same _ _ _ (u := .nilIface) ?_
        rw [World.cell?_setCell_other _ _ _ _ (by simp)]
        exact cq6
      have hK : Kept w ((w6.setCell ⟨w.heap.size, 0, none⟩ (.iface T u)).setCell ⟨w.heap.size + 1, 0, none⟩ .nilIface) := ⟨KW.1, KW.2, by simpa using KW.3, fun q h1 => (h7b q (by omega) (by omega)).trans (KW.4 q h1)⟩
      have XF : PX ((w6.setCell ⟨w.heap.size, 0, none⟩ (.iface T u)).setCell ⟨w.heap.size + 1, 0, none⟩ .nilIface) (fun b => w.heap.size ≤ b) x (.iface T u) := (X6.keep (fun b h1 _ => h7b b (by have h1 : w3.heap.size ≤ b := h1; omega) (by have h1 : w3.heap.size ≤ b := h1; omega))).mono (fun b h1 _ => Nat.le_trans KW3.size h1)
      have FIN : Hid _ := HOK.out (.iface T u) _ hK hneg (by omega) XF
      clear h7b XF X6 X5 hK
      go_wp2_with fail
      refine leaves_cons (f := 74) (args := #[.pointer (some ⟨w.heap.size, 0, none⟩), .pointer (some ⟨w.heap.size + 1, 0, none⟩)]) (by simp) (by simp [go_sem]) ?_
      refine (catchE_idle ⟨w.heap.size, 0, none⟩ ⟨w.heap.size + 1, 0, none⟩ _).mono ?_
      rintro e u' w'' ⟨rfl, rfl, rfl⟩
      simp [Leaves, settle, results, Tryz.results46, go_sem, cp, cq]
      exact FIN.out
  · have hme : isM L { data := #[101, 110, 100] } K (-1) = false := by
      rw [isM_same, ← hend]
      simp [hke]
    have hn : needB L { data := #[101, 110, 100] } K (-1) = (tkAt L K).loc := (need_false hme).2
    have HEN : Hid _ := pexpend_bad w5 (w.heap.size + 2) s _ kdK _ hr5 hke
    clear hr5 hT5 hend hke hme
    go_wp2_with fail
    refine Calls.mono HEN.out ?_
    rintro e w6 ⟨b, he, hb4, hb, hk6⟩
    have hp := hk6.blk hp5
    have hq := hk6.blk hq5
    have KW : Kept w w6 := KW5.trans hk6
    have hbb : w.heap.size + 2 ≤ b := by omega
    rw [he]
    clear he HEN
    refine leaves_cons (f := 74) (args := #[.pointer (some ⟨w.heap.size, 0, none⟩), .pointer (some ⟨w.heap.size + 1, 0, none⟩)]) (by simp) (by simp [go_sem]) ?_
    refine (catchE_panicking ⟨w.heap.size, 0, none⟩ ⟨w.heap.size + 1, 0, none⟩ (.iface T u) .nilIface 83 (.pointer (some ⟨b, 0, none⟩)) [] w6 ?_ ?_ ?_ ?_ ?_).mono ?_
    · simp [World.cell?, hp]
    · simp [World.frozen?, hp]
    · simp [World.cell?, hq]
    · simp [World.frozen?, hq]
    · simp
    rintro e u' w'' ⟨rfl, rfl, hww⟩
    have hK : Kept w w'' := by
      have k3 : Kept w (w6.alloc (.cells #[.iface 83 (.pointer (some ⟨b, 0, none⟩))] 185)) := KW.trans (Kept.alloc _ _)
      rw [hww]
      exact ⟨k3.1, k3.2, by simpa using k3.3, fun q hq => (Below.heap_setCell _ _ _ q (by intro z; simp at z; omega)).trans ((Below.heap_setCell _ _ _ q (by intro z; simp at z; omega)).trans (k3.4 q hq))⟩
    have hp3 : (w6.alloc (.cells #[.iface 83 (.pointer (some ⟨b, 0, none⟩))] 185)).cell? ⟨w.heap.size, 0, none⟩ = some (.iface T u) := by simp [World.cell?, (Kept.alloc w6 (.cells #[.iface 83 (.pointer (some ⟨b, 0, none⟩))] 185)).blk hp]
    have hq3 : (w6.alloc (.cells #[.iface 83 (.pointer (some ⟨b, 0, none⟩))] 185)).cell? ⟨w.heap.size + 1, 0, none⟩ = some .nilIface := by simp [World.cell?, (Kept.alloc w6 (.cells #[.iface 83 (.pointer (some ⟨b, 0, none⟩))] 185)).blk hq]
    have cp : w''.cell? ⟨w.heap.size, 0, none⟩ = some .nilIface := by
      rw [hww, World.cell?_setCell_other _ _ _ _ (by simp)]
      exact World.cell?_setCell_same _ _ _ hp3
    have cq : w''.cell? ⟨w.heap.size + 1, 0, none⟩ = some (.iface 83 (.pointer (some ⟨b, 0, none⟩))) := by
      rw [hww]
      refine World.cell?_setCell_same _ _ _ (u := .nilIface) ?_
      rw [World.cell?_setCell_other _ _ _ _ (by simp)]
      exact hq3
    have hX : ∀ k o, w.heap.size + 2 ≤ k → w6.heap[k]? = some o → w''.heap[k]? = some o := by
      intro k o hk ho
      rw [hww]
      exact (Below.heap_setCell _ _ _ k (by intro z; simp at z; omega)).trans ((Below.heap_setCell _ _ _ k (by intro z; simp at z; omega)).trans ((Kept.alloc w6 _).blk ho))
    clear hww
    have FIN : Hid _ := HSYN.out b _ _ hK hn (hX b _ hbb hb4)
    simp [Leaves, settle, results, Tryz.results46, go_sem, cp, cq]
    exact FIN.out
end Go.Proofs.YtleenphlgbklmabGreatDoor
