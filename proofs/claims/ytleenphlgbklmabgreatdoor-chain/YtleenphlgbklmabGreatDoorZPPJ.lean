import Derived.Test.YtleenphlgbklmabGreatDoorZPStep
import Derived.Test.YtleenphlgbklmabGreatDoorZPNio
import Derived.Test.YtleenphlgbklmabGreatDoorZPRoom
import Derived.Test.YtleenphlgbklmabGreatDoorZTEn
import Derived.Test.YtleenphlgbklmabGreatDoorZPVar
import Derived.Test.YtleenphlgbklmabGreatDoorZTGood
import Derived.Shelf.SlIter.Nil
import Derived.Shelf.SortM.Plain
import Derived.Shelf.SortM.SortNone
import Derived.Ground.GgzProg
import Derived.Ground.SlgmProg
import Derived.Test.YtleenphlgbklmabGreatDoorZPTq
import Derived.Deep.RegionHeld3
import Derived.Deep.DeepCutAuto
import Derived.Deep.LoopGhost
import Derived.Test.YtleenphlgbklmabGreatDoorZPGv
import Derived.Test.YtleenphlgbklmabGreatDoorZWCanon
set_option linter.unusedVariables false
set_option linter.unusedSimpArgs false
namespace Go.Proofs.YtleenphlgbklmabGreatDoor
open Go.RowKit

/-- the words of expressions. -/
def wordsL : List ByteArray := [{ data := #[102, 117, 110] }, { data := #[108, 101, 116] }, { data := #[114, 101, 99] }, { data := #[97, 110, 100] }, { data := #[105, 110] }, { data := #[105, 102] }, { data := #[116, 104, 101, 110] }, { data := #[101, 108, 115, 101] }]
theorem wordsOk : KwOk wordsL := by
  refine ⟨fun w hw => ?_, fun w hw => ?_⟩
  · simp only [wordsL, List.mem_cons, List.not_mem_nil, or_false] at hw
    rcases hw with rfl | rfl | rfl | rfl | rfl | rfl | rfl | rfl <;> exact ⟨ne_of_list (by decide), ne_of_list (by decide), ne_of_list (by decide), ne_of_list (by decide)⟩
  · simp only [wordsL, List.mem_cons, List.not_mem_nil, or_false] at hw
    rcases hw with rfl | rfl | rfl | rfl | rfl | rfl | rfl | rfl <;> decide
theorem sameS_f {a b : ByteArray} (h : a ≠ b) : sameS a b = false := by
  rw [Bool.eq_false_iff]
  intro e
  exact h ((sameS_iff a b).1 e)
theorem wd_chr {t : ByteArray} (h : lowI (chr t 0) = true ∨ figI (chr t 0) = true) : Wd t := by
  have ne : ∀ q : ByteArray, lowI (chr q 0) = false → figI (chr q 0) = false → sameS t q = false := fun q h1 h2 => sameS_f (fun e => by
    rw [e, h1, h2] at h
    rcases h with h | h <;> cases h)
  exact ⟨by unfold opn; rw [ne _ (by decide) (by decide), ne _ (by decide) (by decide)]; rfl, by unfold cls; rw [ne _ (by decide) (by decide), ne _ (by decide) (by decide)]; rfl⟩
/-- the program's kind of a token, and the document's. -/
theorem tk_kind {s : ByteArray} {kws : List ByteArray} {L : List Tk} (hE : PEnv s kws L) {k kd0 : Nat} (hk : k < L.length) (hT : pTok s (tkAt L k).loc = some (kd0, (tkAt L k).s, (tkAt L k).loc + (tkAt L k).s.size)) :
    (((kd0 == 1) && !kwIn kws (tkAt L k).s) = sameS (tkAt L k).is { data := #[110, 97, 109, 101] }) ∧ ((kd0 == 2) = sameS (tkAt L k).is { data := #[110, 117, 109] }) ∧ ((tkAt L k).is = { data := #[110, 97, 109, 101] } ∨ (tkAt L k).is = { data := #[110, 117, 109] } → Wd (tkAt L k).s) := by
  have l := (tk_link hE.kw hE.eq k hk)
  have hle := l.1
  have l := l.2
  generalize tkAt L k = t at *
  cases l with
  | fin a b c d e =>
    rw [d] at hT
    simp only [Option.some.injEq, Prod.mk.injEq] at hT
    rw [← hT.1, b]
    refine ⟨by rw [sameS_f (ne_of_list (by decide))]; rfl, by rw [sameS_f (ne_of_list (by decide))]; rfl, fun q => ?_⟩
    rcases q with q | q <;> exact absurd q (ne_of_list (by decide))
  | bad a b => rw [b] at hT; cases hT
  | word a b c d =>
    have c' := c
    rw [c] at hT
    simp only [Option.some.injEq, Prod.mk.injEq] at hT
    rw [← hT.1, d]
    unfold pTok at c
    rw [if_pos a, if_pos b] at c
    split at c
    · simp only [Option.some.injEq, Prod.mk.injEq] at c
      obtain ⟨_, c2, c3⟩ := c
      have hw : Wd t.s := wd_chr (.inl (by rw [← c2, chr0_extract s _ _ (run_gt lfI s _ a (by simp [lfI, b])) (run_le lfI s _ (by omega)), b]))
      by_cases q : kwIn kws t.s = true
      · rw [q, if_pos rfl]
        have hn := hE.kw.ne _ (kwIn_mem q)
        exact ⟨by rw [sameS_f hn.1]; rfl, by rw [sameS_f hn.2.2.2]; rfl, fun _ => hw⟩
      · have q : kwIn kws t.s = false := by simpa using q
        rw [q, if_neg (by simp)]
        exact ⟨by rw [(sameS_iff _ _).2 rfl]; rfl, by rw [sameS_f (ne_of_list (by decide))]; rfl, fun _ => hw⟩
    · cases c
  | num a b c d e =>
    have d' := d
    rw [d] at hT
    simp only [Option.some.injEq, Prod.mk.injEq] at hT
    rw [← hT.1, e]
    unfold pTok at d
    rw [if_pos a, if_neg (by simp [b]), if_pos c] at d
    split at d
    · simp only [Option.some.injEq, Prod.mk.injEq] at d
      obtain ⟨_, c2, c3⟩ := d
      have hw : Wd t.s := wd_chr (.inr (by rw [← c2, chr0_extract s _ _ (run_gt figI s _ a c) (run_le figI s _ (by omega)), c]))
      exact ⟨by rw [sameS_f (ne_of_list (by decide))]; rfl, by rw [(sameS_iff _ _).2 rfl]; rfl, fun _ => hw⟩
    · cases d
  | sign a b c d e f =>
    rw [d] at hT
    simp only [Option.some.injEq, Prod.mk.injEq] at hT
    have h1 : t.is ≠ { data := #[110, 97, 109, 101] } ∧ t.is ≠ { data := #[110, 117, 109] } := by
      rw [e]
      rcases f with f | ⟨_, f, _⟩
      · rw [f]; exact ⟨ne_of_list (by decide), ne_of_list (by decide)⟩
      · rw [f]
        refine ⟨fun q => ?_, fun q => ?_⟩
        · have q := congrArg (fun x => x.size) q
          have q : (1 : Nat) = 4 := q
          omega
        · have q := congrArg (fun x => x.size) q
          have q : (1 : Nat) = 3 := q
          omega
    rw [← hT.1]
    exact ⟨by rw [sameS_f h1.1]; rfl, by rw [sameS_f h1.2]; rfl, fun q => by rcases q with q | q; exact absurd q h1.1; exact absurd q h1.2⟩
theorem isM_same {L : List Tk} {q : ByteArray} {k : Nat} : isM L q k (-1) = sameS (tkAt L k).is q := by
  unfold isM sameS
  rfl
end Go.Proofs.YtleenphlgbklmabGreatDoor

namespace Go.Proofs.YtleenphlgbklmabGreatDoor
open Go.RowKit

theorem tk_end {s : ByteArray} {kws : List ByteArray} {L : List Tk} (hE : PEnv s kws L) {k kd0 : Nat} (hk : k < L.length) (hT : pTok s (tkAt L k).loc = some (kd0, (tkAt L k).s, (tkAt L k).loc + (tkAt L k).s.size)) : (kd0 == 0) = sameS (tkAt L k).is { data := #[101, 110, 100] } := by
  have l := (tk_link hE.kw hE.eq k hk).2
  generalize tkAt L k = t at *
  cases l with
  | fin a b c d e =>
    rw [d] at hT
    simp only [Option.some.injEq, Prod.mk.injEq] at hT
    rw [← hT.1, b, (sameS_iff _ _).2 rfl]
    rfl
  | bad a b => rw [b] at hT; cases hT
  | word a b c d =>
    rw [c] at hT
    simp only [Option.some.injEq, Prod.mk.injEq] at hT
    rw [← hT.1, d]
    split
    · rename_i q
      rw [sameS_f (hE.kw.ne _ (kwIn_mem q)).2.2.1]
      rfl
    · rw [sameS_f (ne_of_list (by decide))]
      rfl
  | num a b c d e =>
    rw [d] at hT
    simp only [Option.some.injEq, Prod.mk.injEq] at hT
    rw [← hT.1, e, sameS_f (ne_of_list (by decide))]
    rfl
  | sign a b c d e f =>
    rw [d] at hT
    simp only [Option.some.injEq, Prod.mk.injEq] at hT
    have h1 : t.is ≠ { data := #[101, 110, 100] } := by
      rw [e]
      rcases f with f | ⟨_, f, _⟩
      · rw [f]; exact ne_of_list (by decide)
      · rw [f]
        intro q
        have q := congrArg (fun x => x.size) q
        have q : (1 : Nat) = 3 := q
        omega
    rw [← hT.1, sameS_f h1]
    rfl
end Go.Proofs.YtleenphlgbklmabGreatDoor

namespace Go.Proofs.YtleenphlgbklmabGreatDoor
open Go.RowKit
set_option maxRecDepth 20000 in
theorem ppt_throw (R : TypeId → Value → World → Prop) (s : ByteArray) (w : World)
    (HN : Hid (Calls Tryz.prog 50 #[.string s] ((w.alloc (.cells #[.nilIface] 77)).alloc (.cells #[.nilIface] 56)) fun e w' => ∃ T z, e = thrown (.iface T z) ∧ R T z w' ∧ Kept ((w.alloc (.cells #[.nilIface] 77)).alloc (.cells #[.nilIface] 56)) w')) :
    Calls Tryz.prog 35 #[.string s] w fun e w' => ∃ T z w2, e = .returned (.tuple #[.nilIface, .iface T z]) ∧ R T z w2 ∧ Kept w w' ∧ ∀ k o, w.heap.size + 2 ≤ k → w2.heap[k]? = some o → w'.heap[k]? = some o := by
  have hk1 : Kept w ((w.alloc (.cells #[.nilIface] 77)).alloc (.cells #[.nilIface] 56)) := (Kept.alloc _ _).trans (Kept.alloc _ _)
  have hp0 : ((w.alloc (.cells #[.nilIface] 77)).alloc (.cells #[.nilIface] 56)).heap[w.heap.size]? = some (.cells #[.nilIface] 77 (0, 0)) := (Kept.alloc _ _).blk (heap_alloc_new _ _)
  have hq0 : ((w.alloc (.cells #[.nilIface] 77)).alloc (.cells #[.nilIface] 56)).heap[w.heap.size + 1]? = some (.cells #[.nilIface] 56 (0, 0)) := by
    have := heap_alloc_new (w.alloc (.cells #[.nilIface] 77)) (.cells #[.nilIface] 56)
    simpa using this
  go_enter_defers Tryz.func35, Tryz.ntmps35
  go_wp2_with fail
  refine Calls.mono HN.out ?_
  rintro e w2 ⟨T, z, rfl, hR, hk2⟩
  have hp2 := hk2.blk hp0
  have hq2 := hk2.blk hq0
  refine leaves_cons (f := 48) (args := #[.pointer (some ⟨w.heap.size, 0, none⟩), .pointer (some ⟨w.heap.size + 1, 0, none⟩)]) (by simp) (by simp [go_sem]) ?_
  refine (catchT_panicking ⟨w.heap.size, 0, none⟩ ⟨w.heap.size + 1, 0, none⟩ .nilIface .nilIface T z [] w2 ?_ ?_ ?_ ?_ ?_).mono ?_
  · simp [World.cell?, hp2]
  · simp [World.frozen?, hp2]
  · simp [World.cell?, hq2]
  · simp [World.frozen?, hq2]
  · simp
  rintro e u' w'' ⟨rfl, rfl, hww⟩
  have hK : Kept w w'' := by
    have k3 : Kept w (w2.alloc (.cells #[.iface T z] 185)) := (hk1.trans hk2).trans (Kept.alloc _ _)
    rw [hww]
    exact ⟨k3.1, k3.2, by simpa using k3.3, fun q hq => (Below.heap_setCell _ _ _ q (by intro z; simp at z; omega)).trans ((Below.heap_setCell _ _ _ q (by intro z; simp at z; omega)).trans (k3.4 q hq))⟩
  have hp3 : (w2.alloc (.cells #[.iface T z] 185)).cell? ⟨w.heap.size, 0, none⟩ = some .nilIface := by simp [World.cell?, (Kept.alloc w2 (.cells #[.iface T z] 185)).blk hp2]
  have hq3 : (w2.alloc (.cells #[.iface T z] 185)).cell? ⟨w.heap.size + 1, 0, none⟩ = some .nilIface := by simp [World.cell?, (Kept.alloc w2 (.cells #[.iface T z] 185)).blk hq2]
  have cp : w''.cell? ⟨w.heap.size, 0, none⟩ = some .nilIface := by
    rw [hww, World.cell?_setCell_other _ _ _ _ (by simp)]
    exact World.cell?_setCell_same _ _ _ hp3
  have cq : w''.cell? ⟨w.heap.size + 1, 0, none⟩ = some (.iface T z) := by
    rw [hww]
    refine World.cell?_setCell_same _ _ _ (u := .nilIface) ?_
    rw [World.cell?_setCell_other _ _ _ _ (by simp)]
    exact hq3
  have hX : ∀ k o, w.heap.size + 2 ≤ k → w2.heap[k]? = some o → w''.heap[k]? = some o := by
    intro k o hk ho
    rw [hww]
    exact (Below.heap_setCell _ _ _ k (by intro z; simp at z; omega)).trans ((Below.heap_setCell _ _ _ k (by intro z; simp at z; omega)).trans ((Kept.alloc w2 _).blk ho))
  clear hww
  simp [Leaves, settle, results, Tryz.results35, go_sem, cp, cq]
  exact ⟨T, z, ⟨rfl, rfl⟩, w2, hR, hK, hX⟩

def tyWords : List ByteArray := [{ data := #[105, 110, 116] }, { data := #[98, 111, 111, 108] }]
theorem tyWordsOk : KwOk tyWords := by
  refine ⟨fun w hw => ?_, fun w hw => ?_⟩
  · simp only [tyWords, List.mem_cons, List.not_mem_nil, or_false] at hw
    rcases hw with rfl | rfl <;> exact ⟨ne_of_list (by decide), ne_of_list (by decide), ne_of_list (by decide), ne_of_list (by decide)⟩
  · simp only [tyWords, List.mem_cons, List.not_mem_nil, or_false] at hw
    rcases hw with rfl | rfl <;> decide
theorem lexT0 {s : ByteArray} {L : List Tk} (hE : PEnv s tyWords L) : 0 < L.length ∧ (tkAt L 0).loc = run blI s 0 := by
  have hk : ∀ w, w ∈ tyWords → w ≠ { data := #[110, 97, 109, 101] } := fun w hw => (tyWordsOk.ne w hw).1
  have hp : 0 < L.length := by rw [hE.eq]; exact toks_pos s tyWords
  refine ⟨hp, ?_⟩
  have h := (toks_next s tyWords hk (s.size + 1) 0 (Nat.zero_le _) 0 (by rw [← hE.eq]; exact hp)).1 rfl
  rw [← hE.eq] at h
  rw [h]
  rfl
theorem Tryz.mkV (w : World) : (Instr.makeMap 114 none).run Tryz.prog w = .ok (.map (some w.heap.size)) (w.alloc (.map #[] 0)) := by kernel_rfl
set_option maxRecDepth 20000 in
set_option maxHeartbeats 1000000 in
theorem pt_main {A : Nat → Addr} {s : ByteArray} {L : List Tk} (hE : PEnv s tyWords L) (w : World) (hG : Glb A w) (n : Nat) (t : Ty) (names : List ByteArray) (K : Nat) (B : Int) (hM : arrowM L n [] 0 (-1) = some (t, names, K, B)) (h0 : (tkAt L 0).is ≠ { data := #[110, 111, 110, 101] }) (R : Ending → World → Prop)
    (hsyn : ∀ (b l : Nat) (w' : World), Kept w w' → needB L { data := #[101, 110, 100] } K B = l → w'.heap[b]? = some (.cells #[.int .i64 l] 94 (0, 0)) → R (.returned (.tuple #[.nilIface, .iface 83 (.pointer (some ⟨b, 0, none⟩))])) w')
    (hbig : ∀ w' : World, Kept w w' → needB L { data := #[101, 110, 100] } K B < 0 → 120 < sz t → R (.returned (.tuple #[.nilIface, .iface 342 (.pointer (some (A 4)))])) w')
    (hok : ∀ (v : Value) (vb : List Nat) (w' : World), Kept w w' → needB L { data := #[101, 110, 100] } K B < 0 → sz t ≤ 120 → PTyR w' vb w.heap.size w'.heap.size t v → (∀ c, c ∈ vb → VBlk w' c ∧ w.heap.size ≤ c) → vb.Nodup → NB w' vb names → R (.returned (.tuple #[v, .nilIface])) w') :
    Calls Tryz.prog 35 #[.string s] w R := by
  have hk1 : Kept w ((w.alloc (.cells #[.nilIface] 77)).alloc (.cells #[.nilIface] 56)) := (Kept.alloc _ _).trans (Kept.alloc _ _)
  have hp0 : ((w.alloc (.cells #[.nilIface] 77)).alloc (.cells #[.nilIface] 56)).heap[w.heap.size]? = some (.cells #[.nilIface] 77 (0, 0)) := (Kept.alloc _ _).blk (heap_alloc_new _ _)
  have hq0 : ((w.alloc (.cells #[.nilIface] 77)).alloc (.cells #[.nilIface] 56)).heap[w.heap.size + 1]? = some (.cells #[.nilIface] 56 (0, 0)) := by
    have := heap_alloc_new (w.alloc (.cells #[.nilIface] 77)) (.cells #[.nilIface] 56)
    simpa using this
  have hs1 : ((w.alloc (.cells #[.nilIface] 77)).alloc (.cells #[.nilIface] 56)).heap.size = w.heap.size + 2 := by simp
  obtain ⟨hlp, hl0⟩ := lexT0 hE
  obtain ⟨kd, hT⟩ := tk_tok hE.kw hE.eq 0 hlp h0
  rw [hl0] at hT
  have HN : Hid _ := pnew_some s ((w.alloc (.cells #[.nilIface] 77)).alloc (.cells #[.nilIface] 56)) hE.sz kd _ _ hT
  have HT : Hid _ := hT
  have HSE : Hid _ := (ptref_all s tyWords L hE rfl n).1
  have HM : Hid _ := hM
  have HG : Hid _ := hG
  have HSYN : Hid _ := hsyn
  have HBIG : Hid _ := hbig
  have HOK : Hid _ := hok
  clear hM hG hT hsyn hbig hok
  generalize hW : ((w.alloc (.cells #[.nilIface] 77)).alloc (.cells #[.nilIface] 56)) = W at *
  go_enter_defers Tryz.func35, Tryz.ntmps35
  go_wp2_with fail
  refine Calls.mono HN.out ?_
  rintro e w2 ⟨rfl, hk2, hP2⟩
  have m2 := Tryz.mkV w2
  have hp2 := hk2.blk hp0
  have hq2 := hk2.blk hq0
  rw [hs1] at hP2
  have PA : PAt w2 (w.heap.size + 2) s L 0 := ⟨⟨kd, by rw [hl0]; exact hP2, by rw [hl0]; exact HT.out⟩, hlp, h0⟩
  have hkm : Kept w2 (w2.alloc (.map #[] 0)) := Kept.alloc _ _
  have hkr : Kept (w2.alloc (.map #[] 0)) ((w2.alloc (.map #[] 0)).alloc (.cells #[.pointer (some ⟨w.heap.size + 2, 0, none⟩), .map (some w2.heap.size)] 116)) := Kept.alloc _ _
  have hmp : ((w2.alloc (.map #[] 0)).alloc (.cells #[.pointer (some ⟨w.heap.size + 2, 0, none⟩), .map (some w2.heap.size)] 116)).heap[w2.heap.size]? = some (.map #[] 0) := hkr.blk (heap_alloc_new _ _)
  have hrc : ((w2.alloc (.map #[] 0)).alloc (.cells #[.pointer (some ⟨w.heap.size + 2, 0, none⟩), .map (some w2.heap.size)] 116)).heap[w2.heap.size + 1]? = some (.cells #[.pointer (some ⟨w.heap.size + 2, 0, none⟩), .map (some w2.heap.size)] 116 (0, 0)) := by
    have := heap_alloc_new (w2.alloc (.map #[] 0)) (.cells #[.pointer (some ⟨w.heap.size + 2, 0, none⟩), .map (some w2.heap.size)] 116)
    simpa using this
  have hk23 := hkm.trans hkr
  have hp3 := hk23.blk hp2
  have hq3 := hk23.blk hq2
  have hs2 : w.heap.size + 2 < w2.heap.size := PA.lt'
  have KW3 := (hk1.trans hk2).trans hk23
  have PA3 := PA.kept hk23
  clear HN hP2 PA hkm hkr
  rw [hs1]
  go_wp2_with fail
  generalize hw3 : ((w2.alloc (.map #[] 0)).alloc (.cells #[.pointer (some ⟨w.heap.size + 2, 0, none⟩), .map (some w2.heap.size)] 116)) = w3 at *
  have hV3 : VM w3 w2.heap.size [] [] := ⟨rfl, by simpa [vEs] using hmp, fun j hj => by simp at hj⟩
  have a3 : w3.cell? ⟨w2.heap.size + 1, 0, none⟩ = some (.pointer (some ⟨w.heap.size + 2, 0, none⟩)) := by simp [World.cell?, hrc]
  have HX : Hid _ := HSE.out w3 (w.heap.size + 2) w2.heap.size 0 [] [] t names K B PA3 hV3 (NmOk.nil L) (by omega) HM.out
  have hokN := ((tread_ok L hE.good n).1 _ _ _ _ _ _ _ HM.out hlp (NmOk.nil L))
  refine Calls.mono HX.out ?_
  intro e w4 hres
  clear HX
  by_cases hz : 0 ≤ bz L K B
  · have hor : 0 ≤ B ∨ (tkAt L K).is = { data := #[110, 111, 110, 101] } := by
      by_cases hb : 0 ≤ B
      · exact .inl hb
      · by_cases hn : (tkAt L K).is = { data := #[110, 111, 110, 101] }
        · exact .inr hn
        · rw [bz_ok (by omega) hn] at hz; omega
    obtain ⟨l, hl, b, he, hb4, hb, kq⟩ := hres.thrown hor
    have hbz : bz L K B = l := by
      rcases hl with h1 | ⟨h1, h2, h3⟩
      · rw [h1]; exact bz_ge (by omega)
      · rw [bz_none h1 h2, h3]
    have hn : needB L { data := #[101, 110, 100] } K B = l := (need_bz hz (by decide)).2.trans hbz
    have hp := (kq.block _ (lt_of_block hp3) (by show ¬ _; omega)).trans hp3
    have hq := (kq.block _ (lt_of_block hq3) (by show ¬ _; omega)).trans hq3
    have KW : Kept w w4 := ⟨kq.os.trans KW3.os, kq.output.trans KW3.output, Nat.le_trans KW3.size kq.size, fun q h1 => (kq.block q (Nat.lt_of_lt_of_le h1 KW3.size) (by show ¬ _; omega)).trans (KW3.block q h1)⟩
    have hbb : w.heap.size + 2 ≤ b := by have := lt_of_block hrc; omega
    rw [he]
    clear he hres kq hp3 hq3
    refine leaves_cons (f := 48) (args := #[.pointer (some ⟨w.heap.size, 0, none⟩), .pointer (some ⟨w.heap.size + 1, 0, none⟩)]) (by simp) (by simp [go_sem]) ?_
    refine (catchT_panicking ⟨w.heap.size, 0, none⟩ ⟨w.heap.size + 1, 0, none⟩ .nilIface .nilIface 83 (.pointer (some ⟨b, 0, none⟩)) [] w4 ?_ ?_ ?_ ?_ ?_).mono ?_
    · simp [World.cell?, hp]
    · simp [World.frozen?, hp]
    · simp [World.cell?, hq]
    · simp [World.frozen?, hq]
    · simp
    rintro e u' w'' ⟨rfl, rfl, hww⟩
    have hK : Kept w w'' := by
      have k3 : Kept w (w4.alloc (.cells #[.iface 83 (.pointer (some ⟨b, 0, none⟩))] 185)) := KW.trans (Kept.alloc _ _)
      rw [hww]
      exact ⟨k3.1, k3.2, by simpa using k3.3, fun q hq => (Below.heap_setCell _ _ _ q (by intro z; simp at z; omega)).trans ((Below.heap_setCell _ _ _ q (by intro z; simp at z; omega)).trans (k3.4 q hq))⟩
    have hp3 : (w4.alloc (.cells #[.iface 83 (.pointer (some ⟨b, 0, none⟩))] 185)).cell? ⟨w.heap.size, 0, none⟩ = some .nilIface := by simp [World.cell?, (Kept.alloc w4 (.cells #[.iface 83 (.pointer (some ⟨b, 0, none⟩))] 185)).blk hp]
    have hq3 : (w4.alloc (.cells #[.iface 83 (.pointer (some ⟨b, 0, none⟩))] 185)).cell? ⟨w.heap.size + 1, 0, none⟩ = some .nilIface := by simp [World.cell?, (Kept.alloc w4 (.cells #[.iface 83 (.pointer (some ⟨b, 0, none⟩))] 185)).blk hq]
    have cp : w''.cell? ⟨w.heap.size, 0, none⟩ = some .nilIface := by
      rw [hww, World.cell?_setCell_other _ _ _ _ (by simp)]
      exact World.cell?_setCell_same _ _ _ hp3
    have cq : w''.cell? ⟨w.heap.size + 1, 0, none⟩ = some (.iface 83 (.pointer (some ⟨b, 0, none⟩))) := by
      rw [hww]
      refine World.cell?_setCell_same _ _ _ (u := .nilIface) ?_
      rw [World.cell?_setCell_other _ _ _ _ (by simp)]
      exact hq3
    have hX : ∀ k o, w.heap.size + 2 ≤ k → w4.heap[k]? = some o → w''.heap[k]? = some o := by
      intro k o hk ho
      rw [hww]
      exact (Below.heap_setCell _ _ _ k (by intro z; simp at z; omega)).trans ((Below.heap_setCell _ _ _ k (by intro z; simp at z; omega)).trans ((Kept.alloc w4 _).blk ho))
    clear hww
    have FIN : Hid _ := HSYN.out b l _ hK hn (hX b _ hbb hb4)
    simp [Leaves, settle, results, Tryz.results35, go_sem, cp, cq]
    exact FIN.out
  obtain ⟨hB, hnn⟩ := bz_neg (show bz L K B < 0 by omega)
  obtain ⟨v, vb, he, hv, hEnd⟩ := hres.1 hB hnn
  clear hz hres
  subst he
  have kq := hEnd.kp
  have P4 := hEnd.at'
  have V4 := hEnd.vm
  have hp := (kq.block _ (lt_of_block hp3) (by show ¬ _; omega)).trans hp3
  have hq := (kq.block _ (lt_of_block hq3) (by show ¬ _; omega)).trans hq3
  have hrc4 := (kq.block _ (lt_of_block hrc) (by show ¬ _; omega)).trans hrc
  have KW : Kept w w4 := ⟨kq.os.trans KW3.os, kq.output.trans KW3.output, Nat.le_trans KW3.size kq.size, fun q h1 => (kq.block q (Nat.lt_of_lt_of_le h1 KW3.size) (by show ¬ _; omega)).trans (KW3.block q h1)⟩
  obtain ⟨T, u, rfl⟩ := hv.iface
  have hvb := V4.vblk
  have hnb : NB w4 vb names := ⟨V4.len, V4.vr⟩
  have hnd := V4.nodup hokN.2.nd
  have hfr : ∀ c, c ∈ vb → w.heap.size ≤ c := fun c hc => by
    obtain ⟨u', e1, e2⟩ := hEnd.pre
    rw [e1] at hc
    exact Nat.le_trans KW3.size (e2 c (by simpa using hc))
  have HFR : Hid _ := hfr
  have cp4 : w4.cell? ⟨w.heap.size, 0, none⟩ = some .nilIface := by simp [World.cell?, hp]
  have fp4 : w4.frozen? ⟨w.heap.size, 0, none⟩ = false := by simp [World.frozen?, hp]
  have h5b : ∀ b, b ≠ w.heap.size → (w4.setCell ⟨w.heap.size, 0, none⟩ (.iface T u)).heap[b]? = w4.heap[b]? := fun b hb => Below.heap_setCell _ _ _ b (by intro z; simp at z; omega)
  have hp5 : (w4.setCell ⟨w.heap.size, 0, none⟩ (.iface T u)).heap[w.heap.size]? = some (.cells #[.iface T u] 77 (0, 0)) := by simp [World.setCell, hp, Array.getElem?_modify]
  have hq5 := (h5b (w.heap.size + 1) (by omega)).trans hq
  have hrc5 := (h5b (w2.heap.size + 1) (by omega)).trans hrc4
  have P5 : PAt (w4.setCell ⟨w.heap.size, 0, none⟩ (.iface T u)) (w.heap.size + 2) s L K := by
    obtain ⟨kd, e1, e2⟩ := P4.ex
    exact ⟨⟨kd, (h5b _ (by omega)).trans e1, e2⟩, P4.lt, P4.nn⟩
  have hkp5 : ∀ (k : Nat) (cs : Array Value) (e : TypeId) (f : Nat × Nat), e ≠ 77 → w4.heap[k]? = some (.cells cs e f) → (w4.setCell ⟨w.heap.size, 0, none⟩ (.iface T u)).heap[k]? = some (.cells cs e f) := fun k cs e f he hk => (h5b k (fun z => by
    rw [z, hp] at hk
    simp only [Option.some.injEq, Obj.cells.injEq] at hk
    exact he hk.2.1.symm)).trans hk
  have X5 : PTyR (w4.setCell ⟨w.heap.size, 0, none⟩ (.iface T u)) vb w.heap.size (w4.setCell ⟨w.heap.size, 0, none⟩ (.iface T u)).heap.size t (.iface T u) := (hv.keep (fun k cs e f he hk => hkp5 k cs e f (by rcases he with rfl | rfl | rfl <;> decide) hk)).wide KW3.size (by simp)
  have hvb5 : ∀ c, c ∈ vb → VBlk (w4.setCell ⟨w.heap.size, 0, none⟩ (.iface T u)) c := fun c hc => by
    obtain ⟨nm, h1⟩ := hvb c hc
    exact ⟨nm, hkp5 c _ _ _ (by decide) h1⟩
  have hnb5 : NB (w4.setCell ⟨w.heap.size, 0, none⟩ (.iface T u)) vb names := ⟨hnb.1, fun j hj => hkp5 _ _ _ _ (by decide) (hnb.2 j hj)⟩
  have KW5 : Kept w (w4.setCell ⟨w.heap.size, 0, none⟩ (.iface T u)) := ⟨KW.1, KW.2, by simpa using KW.3, fun q h1 => (h5b q (by omega)).trans (KW.4 q h1)⟩
  have hws : w.heap.size + 2 ≤ (w4.setCell ⟨w.heap.size, 0, none⟩ (.iface T u)).heap.size := by have := lt_of_block hq; simp; omega
  clear hp hq hrc4 P4 hv KW hrc h5b hfr hp3 hq3 hp2 hq2 hp0 hq0 hEnd V4 hvb hnb hV3 hmp kq hkp5
  generalize hw5 : w4.setCell ⟨w.heap.size, 0, none⟩ (.iface T u) = w5 at *
  have a5 : w5.cell? ⟨w2.heap.size + 1, 0, none⟩ = some (.pointer (some ⟨w.heap.size + 2, 0, none⟩)) := by simp [World.cell?, hrc5]
  have cp5 : w5.cell? ⟨w.heap.size, 0, none⟩ = some (.iface T u) := by simp [World.cell?, hp5]
  obtain ⟨kdK, hr5, hT5⟩ := P5.ex
  have hend := tk_end hE P5.lt hT5
  have hB1 : B = -1 := ((tread_bad L n).1 _ _ _ _ _ _ _ HM.out).2 hB
  subst hB1
  by_cases hke : kdK = 0
  · have hme : isM L { data := #[101, 110, 100] } K (-1) = true := by rw [isM_same, ← hend, hke]; rfl
    have hneg : needB L { data := #[101, 110, 100] } K (-1) < 0 := by rw [(need_true hme).2]; omega
    have HEN : Hid _ := pexpend_any w5 (w.heap.size + 2) s _ kdK _ hr5 hke
    have c4 := (HG.out.kept KW5).c4
    clear hr5 hT5 hend hke
    go_wp2_with fail
    refine Calls.mono HEN.out ?_
    rintro e w' ⟨rfl, hww⟩
    rw [hww]
    clear hww w' HEN
    have HDP : Hid _ := above_ty X5.ty hvb5
    go_wp2_with fail
    refine Calls.mono HDP.out ?_
    rintro e w6 ⟨rfl, hk6⟩
    have d1 := hk6.cell c4
    have hp := hk6.blk hp5
    have hq := hk6.blk hq5
    have cp6 : w6.cell? ⟨w.heap.size, 0, none⟩ = some (.iface T u) := by simp [World.cell?, hp]
    have fp6 : w6.frozen? ⟨w.heap.size, 0, none⟩ = false := by simp [World.frozen?, hp]
    have cq6 : w6.cell? ⟨w.heap.size + 1, 0, none⟩ = some .nilIface := by simp [World.cell?, hq]
    have fq6 : w6.frozen? ⟨w.heap.size + 1, 0, none⟩ = false := by simp [World.frozen?, hq]
    have KW : Kept w w6 := KW5.trans hk6
    have X6 := X5.keep (PKeep.kept hk6)
    have hvb6 : ∀ c, c ∈ vb → VBlk w6 c := fun c hc => (hvb5 c hc).kept hk6
    have hnb6 : NB w6 vb names := ⟨hnb5.1, fun j hj => hk6.blk (hnb5.2 j hj)⟩
    clear HDP
    by_cases hd : 120 < sz t
    · have hdd : decide (120 < sz t) = true := by simp [hd]
      rw [hdd]
      go_wp2_with (go_at_call 54; refine Calls.mono (prefuse_es _ _) ?_; rintro e w' ⟨he, hww⟩; rw [hww, he]; clear hww he w' e)
      refine leaves_cons (f := 48) (args := #[.pointer (some ⟨w.heap.size, 0, none⟩), .pointer (some ⟨w.heap.size + 1, 0, none⟩)]) (by simp) (by simp [go_sem]) ?_
      refine (catchT_panicking ⟨w.heap.size, 0, none⟩ ⟨w.heap.size + 1, 0, none⟩ (.iface T u) .nilIface 342 (.pointer (some (A 4))) [] w6 ?_ ?_ ?_ ?_ ?_).mono ?_
      · simp [World.cell?, hp]
      · simp [World.frozen?, hp]
      · simp [World.cell?, hq]
      · simp [World.frozen?, hq]
      · simp
      rintro e u' w'' ⟨rfl, rfl, hww⟩
      have hK : Kept w w'' := by
        have k3 : Kept w (w6.alloc (.cells #[.iface 342 (.pointer (some (A 4)))] 185)) := KW.trans (Kept.alloc _ _)
        rw [hww]
        exact ⟨k3.1, k3.2, by simpa using k3.3, fun q hq => (Below.heap_setCell _ _ _ q (by intro z; simp at z; omega)).trans ((Below.heap_setCell _ _ _ q (by intro z; simp at z; omega)).trans (k3.4 q hq))⟩
      have hp3 : (w6.alloc (.cells #[.iface 342 (.pointer (some (A 4)))] 185)).cell? ⟨w.heap.size, 0, none⟩ = some (.iface T u) := by simp [World.cell?, (Kept.alloc w6 (.cells #[.iface 342 (.pointer (some (A 4)))] 185)).blk hp]
      have hq3 : (w6.alloc (.cells #[.iface 342 (.pointer (some (A 4)))] 185)).cell? ⟨w.heap.size + 1, 0, none⟩ = some .nilIface := by simp [World.cell?, (Kept.alloc w6 (.cells #[.iface 342 (.pointer (some (A 4)))] 185)).blk hq]
      have cp : w''.cell? ⟨w.heap.size, 0, none⟩ = some .nilIface := by
        rw [hww, World.cell?_setCell_other _ _ _ _ (by simp)]
        exact World.cell?_setCell_same _ _ _ hp3
      have cq : w''.cell? ⟨w.heap.size + 1, 0, none⟩ = some (.iface 342 (.pointer (some (A 4)))) := by
        rw [hww]
        refine World.cell?_setCell_same _ _ _ (u := .nilIface) ?_
        rw [World.cell?_setCell_other _ _ _ _ (by simp)]
        exact hq3
      have hX : ∀ k o, w.heap.size + 2 ≤ k → w6.heap[k]? = some o → w''.heap[k]? = some o := by
        intro k o hk ho
        rw [hww]
        exact (Below.heap_setCell _ _ _ k (by intro z; simp at z; omega)).trans ((Below.heap_setCell _ _ _ k (by intro z; simp at z; omega)).trans ((Kept.alloc w6 _).blk ho))
      clear hww
      have FIN : Hid _ := HBIG.out _ hK hneg hd
      simp [Leaves, settle, results, Tryz.results35, go_sem, cp, cq]
      exact FIN.out
    · have hdd : decide (120 < sz t) = false := by simp [hd]
      rw [hdd]
      have h7b : ∀ b, b ≠ w.heap.size → b ≠ w.heap.size + 1 → ((w6.setCell ⟨w.heap.size, 0, none⟩ (.iface T u)).setCell ⟨w.heap.size + 1, 0, none⟩ .nilIface).heap[b]? = w6.heap[b]? := fun b h1 h2 => (Below.heap_setCell _ _ _ b (by intro z; simp at z; omega)).trans (Below.heap_setCell _ _ _ b (by intro z; simp at z; omega))
      have cp : ((w6.setCell ⟨w.heap.size, 0, none⟩ (.iface T u)).setCell ⟨w.heap.size + 1, 0, none⟩ .nilIface).cell? ⟨w.heap.size, 0, none⟩ = some (.iface T u) := by
        rw [World.cell?_setCell_other _ _ _ _ (by simp)]
        exact World.cell?_setCell_same _ _ _ cp6
      have cq : ((w6.setCell ⟨w.heap.size, 0, none⟩ (.iface T u)).setCell ⟨w.heap.size + 1, 0, none⟩ .nilIface).cell? ⟨w.heap.size + 1, 0, none⟩ = some .nilIface := by
        refine World.cell?_setCell_same _ _ _ (u := .nilIface) ?_
        rw [World.cell?_setCell_other _ _ _ _ (by simp)]
        exact cq6
      have hkp7 : ∀ (k : Nat) (cs : Array Value) (e : TypeId) (f : Nat × Nat), e ≠ 77 → e ≠ 56 → w6.heap[k]? = some (.cells cs e f) → ((w6.setCell ⟨w.heap.size, 0, none⟩ (.iface T u)).setCell ⟨w.heap.size + 1, 0, none⟩ .nilIface).heap[k]? = some (.cells cs e f) := fun k cs e f he he2 hk => (h7b k (fun z => by
        rw [z, hp] at hk
        simp only [Option.some.injEq, Obj.cells.injEq] at hk
        exact he hk.2.1.symm) (fun z => by
        rw [z, hq] at hk
        simp only [Option.some.injEq, Obj.cells.injEq] at hk
        exact he2 hk.2.1.symm)).trans hk
      have hK : Kept w ((w6.setCell ⟨w.heap.size, 0, none⟩ (.iface T u)).setCell ⟨w.heap.size + 1, 0, none⟩ .nilIface) := ⟨KW.1, KW.2, by simpa using KW.3, fun q h1 => (h7b q (by omega) (by omega)).trans (KW.4 q h1)⟩
      have XF : PTyR ((w6.setCell ⟨w.heap.size, 0, none⟩ (.iface T u)).setCell ⟨w.heap.size + 1, 0, none⟩ .nilIface) vb w.heap.size ((w6.setCell ⟨w.heap.size, 0, none⟩ (.iface T u)).setCell ⟨w.heap.size + 1, 0, none⟩ .nilIface).heap.size t (.iface T u) := (X6.keep (fun k cs e f he hk => hkp7 k cs e f (by rcases he with rfl | rfl | rfl <;> decide) (by rcases he with rfl | rfl | rfl <;> decide) hk)).wide (Nat.le_refl _) (by simp; exact hk6.size)
      have hvF : ∀ c, c ∈ vb → VBlk ((w6.setCell ⟨w.heap.size, 0, none⟩ (.iface T u)).setCell ⟨w.heap.size + 1, 0, none⟩ .nilIface) c := fun c hc => by
        obtain ⟨nm, h1⟩ := hvb6 c hc
        exact ⟨nm, hkp7 c _ _ _ (by decide) (by decide) h1⟩
      have hnF : NB ((w6.setCell ⟨w.heap.size, 0, none⟩ (.iface T u)).setCell ⟨w.heap.size + 1, 0, none⟩ .nilIface) vb names := ⟨hnb6.1, fun j hj => hkp7 _ _ _ _ (by decide) (by decide) (hnb6.2 j hj)⟩
      have FIN : Hid _ := HOK.out (.iface T u) vb _ hK hneg (by omega) XF (fun c hc => ⟨hvF c hc, HFR.out c hc⟩) hnd hnF
      clear h7b XF X6 X5 hK hkp7 hvF hvb6 hvb5 hnF hnb6 hnb5 hdd
      go_wp2_with fail
      refine leaves_cons (f := 48) (args := #[.pointer (some ⟨w.heap.size, 0, none⟩), .pointer (some ⟨w.heap.size + 1, 0, none⟩)]) (by simp) (by simp [go_sem]) ?_
      refine (catchT_idle ⟨w.heap.size, 0, none⟩ ⟨w.heap.size + 1, 0, none⟩ _).mono ?_
      rintro e u' w'' ⟨rfl, rfl, rfl⟩
      simp [Leaves, settle, results, Tryz.results35, go_sem, cp, cq]
      exact FIN.out
  · have hme : isM L { data := #[101, 110, 100] } K (-1) = false := by
      rw [isM_same, ← hend]
      simp [hke]
    have hn : needB L { data := #[101, 110, 100] } K (-1) = (tkAt L K).loc := (need_false hme).2
    have HEN : Hid _ := pexpend_bad w5 (w.heap.size + 2) s _ kdK _ hr5 hke
    clear hr5 hT5 hend hke hme
    go_wp2_with fail
    refine Calls.mono HEN.out ?_
    rintro e w6 ⟨b, he, hb4, hb, hk6⟩
    have hp := hk6.blk hp5
    have hq := hk6.blk hq5
    have KW : Kept w w6 := KW5.trans hk6
    have hbb : w.heap.size + 2 ≤ b := by omega
    rw [he]
    clear he HEN
    refine leaves_cons (f := 48) (args := #[.pointer (some ⟨w.heap.size, 0, none⟩), .pointer (some ⟨w.heap.size + 1, 0, none⟩)]) (by simp) (by simp [go_sem]) ?_
    refine (catchT_panicking ⟨w.heap.size, 0, none⟩ ⟨w.heap.size + 1, 0, none⟩ (.iface T u) .nilIface 83 (.pointer (some ⟨b, 0, none⟩)) [] w6 ?_ ?_ ?_ ?_ ?_).mono ?_
    · simp [World.cell?, hp]
    · simp [World.frozen?, hp]
    · simp [World.cell?, hq]
    · simp [World.frozen?, hq]
    · simp
    rintro e u' w'' ⟨rfl, rfl, hww⟩
    have hK : Kept w w'' := by
      have k3 : Kept w (w6.alloc (.cells #[.iface 83 (.pointer (some ⟨b, 0, none⟩))] 185)) := KW.trans (Kept.alloc _ _)
      rw [hww]
      exact ⟨k3.1, k3.2, by simpa using k3.3, fun q hq => (Below.heap_setCell _ _ _ q (by intro z; simp at z; omega)).trans ((Below.heap_setCell _ _ _ q (by intro z; simp at z; omega)).trans (k3.4 q hq))⟩
    have hp3 : (w6.alloc (.cells #[.iface 83 (.pointer (some ⟨b, 0, none⟩))] 185)).cell? ⟨w.heap.size, 0, none⟩ = some (.iface T u) := by simp [World.cell?, (Kept.alloc w6 (.cells #[.iface 83 (.pointer (some ⟨b, 0, none⟩))] 185)).blk hp]
    have hq3 : (w6.alloc (.cells #[.iface 83 (.pointer (some ⟨b, 0, none⟩))] 185)).cell? ⟨w.heap.size + 1, 0, none⟩ = some .nilIface := by simp [World.cell?, (Kept.alloc w6 (.cells #[.iface 83 (.pointer (some ⟨b, 0, none⟩))] 185)).blk hq]
    have cp : w''.cell? ⟨w.heap.size, 0, none⟩ = some .nilIface := by
      rw [hww, World.cell?_setCell_other _ _ _ _ (by simp)]
      exact World.cell?_setCell_same _ _ _ hp3
    have cq : w''.cell? ⟨w.heap.size + 1, 0, none⟩ = some (.iface 83 (.pointer (some ⟨b, 0, none⟩))) := by
      rw [hww]
      refine World.cell?_setCell_same _ _ _ (u := .nilIface) ?_
      rw [World.cell?_setCell_other _ _ _ _ (by simp)]
      exact hq3
    have hX : ∀ k o, w.heap.size + 2 ≤ k → w6.heap[k]? = some o → w''.heap[k]? = some o := by
      intro k o hk ho
      rw [hww]
      exact (Below.heap_setCell _ _ _ k (by intro z; simp at z; omega)).trans ((Below.heap_setCell _ _ _ k (by intro z; simp at z; omega)).trans ((Kept.alloc w6 _).blk ho))
    clear hww
    have FIN : Hid _ := HSYN.out b _ _ hK hn (hX b _ hbb hb4)
    simp [Leaves, settle, results, Tryz.results35, go_sem, cp, cq]
    exact FIN.out
end Go.Proofs.YtleenphlgbklmabGreatDoor

namespace Go.Proofs.YtleenphlgbklmabGreatDoor
open Go.RowKit

/-- behind parseType: what its ways out are. -/
def TPost (A : Nat → Addr) (w : World) (F : Int) (t : Ty) (names : List ByteArray) (e : Ending) (w' : World) : Prop := Kept w w' ∧
  ((∃ b l : Nat, F = l ∧ e = .returned (.tuple #[.nilIface, .iface 83 (.pointer (some ⟨b, 0, none⟩))]) ∧ w'.heap[b]? = some (.cells #[.int .i64 l] 94 (0, 0))) ∨
  (F < 0 ∧ 120 < sz t ∧ e = .returned (.tuple #[.nilIface, .iface 342 (.pointer (some (A 4)))])) ∨
  (F < 0 ∧ sz t ≤ 120 ∧ ∃ v vb, e = .returned (.tuple #[v, .nilIface]) ∧ PTyR w' vb w.heap.size w'.heap.size t v ∧ (∀ c, c ∈ vb → VBlk w' c ∧ w.heap.size ≤ c) ∧ vb.Nodup ∧ NB w' vb names))
/-- at no token the fault stays. -/
theorem tstk (L : List Tk) (n : Nat) (t : Ty) (names : List ByteArray) (K : Nat) (B : Int) (hM : arrowM L n [] 0 (-1) = some (t, names, K, B)) (h0 : (tkAt L 0).is = { data := #[110, 111, 110, 101] }) : needB L { data := #[101, 110, 100] } K B = (tkAt L 0).loc := by
  have e := (tread_none L n [] 0 (-1) (by omega) h0).2 _ _ _ _ hM
  rw [e]
  exact needB_geT (by omega)
theorem ptype_any {A : Nat → Addr} {s : ByteArray} {L : List Tk} (hE : PEnv s tyWords L) (w : World) (hG : Glb A w) (n : Nat) (t : Ty) (names : List ByteArray) (K : Nat) (B : Int) (hM : arrowM L n [] 0 (-1) = some (t, names, K, B)) :
    Calls Tryz.prog 35 #[.string s] w (TPost A w (needB L { data := #[101, 110, 100] } K B) t names) := by
  by_cases h0 : (tkAt L 0).is = { data := #[110, 111, 110, 101] }
  · obtain ⟨hlp, hl0⟩ := lexT0 hE
    have hT := tk_none hE.kw hE.eq 0 hlp h0
    rw [hl0] at hT
    have hn : needB L { data := #[101, 110, 100] } K B = (run blI s 0 : Nat) := by rw [tstk L n t names K B hM h0, hl0]
    have HN : Hid _ := (pnew_none s ((w.alloc (.cells #[.nilIface] 77)).alloc (.cells #[.nilIface] 56)) hE.sz hT).mono (R' := fun e w' => ∃ T z, e = thrown (.iface T z) ∧ (fun T z w2 => ∃ b : Nat, T = 83 ∧ z = .pointer (some ⟨b, 0, none⟩) ∧ w2.heap[b]? = some (.cells #[.int .i64 (run blI s 0 : Nat)] 94 (0, 0)) ∧ w.heap.size + 2 ≤ b) T z w' ∧ Kept ((w.alloc (.cells #[.nilIface] 77)).alloc (.cells #[.nilIface] 56)) w') (fun e w' ⟨b, h1, h2, h3, h4⟩ => ⟨_, _, h1, ⟨b, rfl, rfl, h2, by simpa using h3⟩, h4⟩)
    refine (ppt_throw _ s w HN).mono ?_
    rintro e w' ⟨T, z, w2, rfl, ⟨b, rfl, rfl, hb, hbb⟩, hK, hX⟩
    exact ⟨hK, .inl ⟨b, _, hn, rfl, hX b _ hbb hb⟩⟩
  · exact pt_main hE w hG n t names K B hM h0 _ (fun b l w' hK hn hb => ⟨hK, .inl ⟨b, l, hn, rfl, hb⟩⟩) (fun w' hK h1 h2 => ⟨hK, .inr (.inl ⟨h1, h2, rfl⟩)⟩) (fun v vb w' hK h1 h2 hx hv hi hn => ⟨hK, .inr (.inr ⟨h1, h2, v, vb, rfl, hx, hv, hi, hn⟩)⟩)
end Go.Proofs.YtleenphlgbklmabGreatDoor

namespace Go.Proofs.YtleenphlgbklmabGreatDoor
open Go.RowKit Go.Maps Go.Sort Go.Shelf

shelf_lay_g SlLaysZ.n7 Ggz 7 at Tryz 25 as Tryz.keysT
shelf_lay_g SlLaysZ.n6 Ggz 6 at Tryz 24 as Tryz.sortedT
shelf_lay_g SlLaysM.n6 Slgm 6 at Tryz 43 as Tryz.sortT

theorem Tryz.sortsT (m : Nat) : AnyZ.SortsIn Tryz.prog Tryz.sortedT_ren Fence.wide m :=
  ⟨fun blk off cap ss W hH hblk hsz => callsIn_wide.2 (AnyM.slices_Sort_string Tryz.sortT blk off cap ss W hH hblk hsz),
   fun p cap W => callsIn_wide.2 (AnyM.slices_Sort_string_none Tryz.sortT p cap W)⟩

theorem Tryz.mapsKeysT (mb : Option Nat) (W : World) : CallsIn Fence.wide 5 Tryz.prog 25 #[.map mb] W fun e w' => e = .returned (.func (.func 44) #[] #[.pointer (some ⟨W.heap.size, 0, none⟩)]) ∧ w' = W.alloc (.cells #[.map mb] 60) :=
  AnyZ.keys_in Tryz.keysT Fence.wide 5 trivial rfl mb W

set_option maxHeartbeats 1000000 in
theorem Tryz.sortedKeysT {H : Type} (b nn : Nat) (D0 : DataW H) (R : Value → Option (DataW H × List MemPlace)) (w : World) (hown : w.ownsMap Tryz.prog 9 R b nn D0) (hmax : Maps.size D0 ≤ maxLen) (hbytes : Maps.size D0 * 16 ≤ 140737488355328) :
    CallsIn Fence.wide 5 Tryz.prog 24 #[.func (.func 44) #[] #[.pointer (some ⟨w.heap.size, 0, none⟩)]] (w.alloc (.cells #[.map (some b)] 60)) fun e w' => ∃ (v : Value) (ss : List (List UInt8)), e = .returned v ∧ ss.Perm (strKeys D0) ∧
      w'.ownsRow (w.alloc (.cells #[.map (some b)] 60)).heap.size 9 1 v ss.length ((ss.mergeSort (fun x y => decide (x ≤ y))).map encStr) ∧ (v = .slice none 0 0 ↔ ss = []) ∧ Below (w.alloc (.cells #[.map (some b)] 60)).heap.size (w.alloc (.cells #[.map (some b)] 60)) w' := by
  have hbl := hown.lt
  have hseq : SeqGives Fence.wide 2 Tryz.prog 44 #[.pointer (some ⟨w.heap.size, 0, none⟩)] encStr (fun ss => ss.Perm (strKeys D0)) (Maps.size D0) (w.alloc (.cells #[.map (some b)] 60)) :=
    AnyZ.keys_gives (ρ := Tryz.keysT_ren) { Tryz.keysT with } Fence.wide _ trivial rfl (by omega) w.heap.size b nn D0 _ (by simp) (by simp) (by
      obtain ⟨es, clock, hb, Ft, hs, hD⟩ := hown
      exact ⟨es, clock, (Below.heap_alloc _ _ b hbl).trans hb, Ft, hs, hD⟩)
  exact AnyZ.sorted_in Tryz.sortedT Fence.wide 5 trivial trivial trivial trivial rfl (by omega) (Tryz.sortsT _) (enters_of Tryz.func43 (by kernel_rfl) rfl) 44 #[.pointer (some ⟨w.heap.size, 0, none⟩)] trivial (enters_of Tryz.func44 (by kernel_rfl) rfl) _ _ hmax hbytes _ hseq

/-- a map of texts, as the library's contracts name it. -/
theorem SM.owns {w : World} {mb : Nat} {kv : List (ByteArray × ByteArray)} (h : SM w mb kv) (hl : kv.length ≤ 1000) (hs : ∀ y, y ∈ kv → y.1.size ≤ maxLen) : ∃ D0 : DataW Unit, w.ownsMap Tryz.prog 9 (fun _ => some (.nil, [])) mb kv.length D0 ∧ (strKeys D0).Perm (kv.map fun y => y.1.data.toList) ∧ Maps.size D0 ≤ 1000 := by
  have hr : ∀ j, j < kv.length → (WideElems.rd (H := Unit) Tryz.prog 9 (fun _ => some (.nil, [])) (tEnt kv j)) = some (.string (kAt kv j).1.data.toList, .nil) := fun j hj => by
    have : kAt kv j ∈ kv := by simp [kAt, List.getD, hj]
    simp [WideElems.rd, tEnt, WideMaps.keyOf_string_mk Tryz.underlying9 (hs _ this)]
  have hfit : WideElems.Fit (H := Unit) Tryz.prog 9 (fun _ => some (.nil, [])) (tEs kv) kv.length := by
    refine ⟨?_, ⟨?_, ?_, ?_⟩, ?_⟩
    · simp [tEs, maxLen]
      omega
    · intro x hx
      simp [tEs] at hx
      obtain ⟨j, hj, rfl⟩ := hx
      exact hj
    · simp [tEs, List.map_map]
      have : (List.map ((fun x => x.born) ∘ tEnt kv) (List.range kv.length)) = List.range kv.length := by
        have e : ((fun x : MapEntry => x.born) ∘ tEnt kv) = id := rfl
        rw [e, List.map_id]
      rw [this]
      exact List.nodup_range
    · have e : ((tEs kv).toList.map (·.key)) = (kv.map Prod.fst).map Value.string := by
        apply List.ext_getElem
        · simp [tEs]
        · intro i h1 h2
          simp at h2
          simp [tEs, tEnt, kAt, List.getD, h2]
      rw [e]
      exact List.Pairwise.map _ (fun a b hab z => hab (by simpa using z)) h.nd
    · intro x hx
      simp [tEs] at hx
      obtain ⟨j, hj, rfl⟩ := hx
      exact ⟨_, hr j hj⟩
  have hmap : (tEs kv).toList.map (WideElems.rg (H := Unit) Tryz.prog 9 (fun _ => some (.nil, []))) = kv.map (fun y => (Lit.string y.1.data.toList, DataW.nil)) := by
    apply List.ext_getElem
    · simp [tEs]
    · intro i h1 h2
      simp at h2
      have := hr i h2
      simp [tEs, WideElems.rg, this]
      simp [kAt, List.getD, h2]
  refine ⟨_, ⟨tEs kv, kv.length, h.mp, hfit, by simp [tEs], rfl⟩, ?_, ?_⟩
  · rw [hmap]
    have := (WideShapes.sorted_perm (kv.map (fun y => ((Lit.string y.1.data.toList, DataW.nil) : Lit × DataW Unit)))).map (fun p => strOf p.1)
    rw [List.map_map] at this
    exact this
  · rw [hmap]
    have := (WideShapes.sorted_perm (kv.map (fun y => ((Lit.string y.1.data.toList, DataW.nil) : Lit × DataW Unit)))).length_eq
    rw [Maps.size_eq, this]
    simpa using hl
theorem keys_any (mb : Option Nat) (W : World) : Calls Tryz.prog 25 #[.map mb] W fun e w' => e = .returned (.func (.func 44) #[] #[.pointer (some ⟨W.heap.size, 0, none⟩)]) ∧ w' = W.alloc (.cells #[.map mb] 60) := callsIn_wide.1 (Tryz.mapsKeysT mb W)
end Go.Proofs.YtleenphlgbklmabGreatDoor

namespace Go.Proofs.YtleenphlgbklmabGreatDoor
open Go.RowKit
open Go.Sort

theorem leB_trans (a b c : List UInt8) (h1 : decide (a ≤ b) = true) (h2 : decide (b ≤ c) = true) : decide (a ≤ c) = true := by
  simp only [decide_eq_true_eq] at *
  exact List.le_trans h1 h2
theorem leB_total (a b : List UInt8) : (decide (a ≤ b) || decide (b ≤ a)) = true := by
  simp only [Bool.or_eq_true, decide_eq_true_eq]
  exact List.le_total a b
theorem sorted_some {w : World} {mb : Nat} {kv : List (ByteArray × ByteArray)} (h : SM w mb kv) (hl : kv.length ≤ 1000) (hs : ∀ y, y ∈ kv → y.1.size ≤ maxLen) :
    Calls Tryz.prog 24 #[.func (.func 44) #[] #[.pointer (some ⟨w.heap.size, 0, none⟩)]] (w.alloc (.cells #[.map (some mb)] 60)) fun e w' => ∃ (v : Value) (sk : List (List UInt8)), e = .returned v ∧ sk.Perm (kv.map fun y => y.1.data.toList) ∧ sk.Pairwise (fun x y => decide (x ≤ y) = true) ∧ w'.ownsRow 0 9 1 v sk.length (sk.map encStr) ∧ Kept (w.alloc (.cells #[.map (some mb)] 60)) w' := by
  obtain ⟨D0, h1, h2, h3⟩ := h.owns hl hs
  refine (callsIn_wide.1 (Tryz.sortedKeysT mb kv.length D0 _ w h1 (by unfold maxLen; omega) (by omega))).mono ?_
  rintro e w' ⟨v, ss, rfl, hS, hrow, hnil, hb⟩
  refine ⟨v, ss.mergeSort (fun x y => decide (x ≤ y)), rfl, ((List.mergeSort_perm ss _).trans hS).trans h2, List.pairwise_mergeSort leB_trans leB_total ss, ?_, ⟨hb.os, hb.output, hb.size, hb.block⟩⟩
  rw [List.length_mergeSort]
  refine ⟨hrow.1, ?_⟩
  rcases hrow.2 with q | ⟨g, cap, cur, e1, _, rest⟩
  · exact .inl q
  · exact .inr ⟨g, cap, cur, e1, Nat.zero_le _, rest⟩
theorem Tryz.fldT (y : ByteArray) (w : World) : (Instr.field 68 (.agg #[.string y]) 0).run Tryz.prog w = .ok (.string y) w := by kernel_rfl
end Go.Proofs.YtleenphlgbklmabGreatDoor
