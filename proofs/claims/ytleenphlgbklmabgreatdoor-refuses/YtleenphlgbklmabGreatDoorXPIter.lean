import Derived.Test.YtleenphlgbklmabGreatDoorXPStep
import Derived.Test.YtleenphlgbklmabGreatDoorXPNio
import Derived.Test.YtleenphlgbklmabGreatDoorXPRoom
import Derived.Test.YtleenphlgbklmabGreatDoorXWMat
import Derived.Test.YtleenphlgbklmabGreatDoorXPKq
import Derived.Test.YtleenphlgbklmabGreatDoorXTGood
import Derived.Shelf.SlIter.Nil
import Derived.Shelf.SortM.Plain
import Derived.Shelf.SortM.SortNone
import Derived.Ground.GgzProg
import Derived.Ground.SlgmProg
import Derived.Test.YtleenphlgbklmabGreatDoorXPTq
set_option linter.unusedVariables false
set_option linter.unusedSimpArgs false
namespace Go.Proofs.YtleenphlgbklmabGreatDoor
open Go.RowKit

/-- the words of expressions. -/
def wordsL : List ByteArray := [{ data := #[102, 117, 110] }, { data := #[108, 101, 116] }, { data := #[114, 101, 99] }, { data := #[97, 110, 100] }, { data := #[105, 110] }, { data := #[105, 102] }, { data := #[116, 104, 101, 110] }, { data := #[101, 108, 115, 101] }]
theorem wordsOk : KwOk wordsL := by
  refine ⟨fun w hw => ?_, fun w hw => ?_⟩
  · simp only [wordsL, List.mem_cons, List.not_mem_nil, or_false] at hw
    rcases hw with rfl | rfl | rfl | rfl | rfl | rfl | rfl | rfl <;> exact ⟨ne_of_list (by decide), ne_of_list (by decide), ne_of_list (by decide), ne_of_list (by decide)⟩
  · simp only [wordsL, List.mem_cons, List.not_mem_nil, or_false] at hw
    rcases hw with rfl | rfl | rfl | rfl | rfl | rfl | rfl | rfl <;> decide
theorem sameS_f {a b : ByteArray} (h : a ≠ b) : sameS a b = false := by
  rw [Bool.eq_false_iff]
  intro e
  exact h ((sameS_iff a b).1 e)
theorem wd_chr {t : ByteArray} (h : lowI (chr t 0) = true ∨ figI (chr t 0) = true) : Wd t := by
  have ne : ∀ q : ByteArray, lowI (chr q 0) = false → figI (chr q 0) = false → sameS t q = false := fun q h1 h2 => sameS_f (fun e => by
    rw [e, h1, h2] at h
    rcases h with h | h <;> cases h)
  exact ⟨by unfold opn; rw [ne _ (by decide) (by decide), ne _ (by decide) (by decide)]; rfl, by unfold cls; rw [ne _ (by decide) (by decide), ne _ (by decide) (by decide)]; rfl⟩
/-- the program's kind of a token, and the document's. -/
theorem tk_kind {s : ByteArray} {kws : List ByteArray} {L : List Tk} (hE : PEnv s kws L) {k kd0 : Nat} (hk : k < L.length) (hT : pTok s (tkAt L k).loc = some (kd0, (tkAt L k).s, (tkAt L k).loc + (tkAt L k).s.size)) :
    (((kd0 == 1) && !kwIn kws (tkAt L k).s) = sameS (tkAt L k).is { data := #[110, 97, 109, 101] }) ∧ ((kd0 == 2) = sameS (tkAt L k).is { data := #[110, 117, 109] }) ∧ ((tkAt L k).is = { data := #[110, 97, 109, 101] } ∨ (tkAt L k).is = { data := #[110, 117, 109] } → Wd (tkAt L k).s) := by
  have l := (tk_link hE.kw hE.eq k hk)
  have hle := l.1
  have l := l.2
  generalize tkAt L k = t at *
  cases l with
  | fin a b c d e =>
    rw [d] at hT
    simp only [Option.some.injEq, Prod.mk.injEq] at hT
    rw [← hT.1, b]
    refine ⟨by rw [sameS_f (ne_of_list (by decide))]; rfl, by rw [sameS_f (ne_of_list (by decide))]; rfl, fun q => ?_⟩
    rcases q with q | q <;> exact absurd q (ne_of_list (by decide))
  | bad a b => rw [b] at hT; cases hT
  | word a b c d =>
    have c' := c
    rw [c] at hT
    simp only [Option.some.injEq, Prod.mk.injEq] at hT
    rw [← hT.1, d]
    unfold pTok at c
    rw [if_pos a, if_pos b] at c
    split at c
    · simp only [Option.some.injEq, Prod.mk.injEq] at c
      obtain ⟨_, c2, c3⟩ := c
      have hw : Wd t.s := wd_chr (.inl (by rw [← c2, chr0_extract s _ _ (run_gt lfI s _ a (by simp [lfI, b])) (run_le lfI s _ (by omega)), b]))
      by_cases q : kwIn kws t.s = true
      · rw [q, if_pos rfl]
        have hn := hE.kw.ne _ (kwIn_mem q)
        exact ⟨by rw [sameS_f hn.1]; rfl, by rw [sameS_f hn.2.2.2]; rfl, fun _ => hw⟩
      · have q : kwIn kws t.s = false := by simpa using q
        rw [q, if_neg (by simp)]
        exact ⟨by rw [(sameS_iff _ _).2 rfl]; rfl, by rw [sameS_f (ne_of_list (by decide))]; rfl, fun _ => hw⟩
    · cases c
  | num a b c d e =>
    have d' := d
    rw [d] at hT
    simp only [Option.some.injEq, Prod.mk.injEq] at hT
    rw [← hT.1, e]
    unfold pTok at d
    rw [if_pos a, if_neg (by simp [b]), if_pos c] at d
    split at d
    · simp only [Option.some.injEq, Prod.mk.injEq] at d
      obtain ⟨_, c2, c3⟩ := d
      have hw : Wd t.s := wd_chr (.inr (by rw [← c2, chr0_extract s _ _ (run_gt figI s _ a c) (run_le figI s _ (by omega)), c]))
      exact ⟨by rw [sameS_f (ne_of_list (by decide))]; rfl, by rw [(sameS_iff _ _).2 rfl]; rfl, fun _ => hw⟩
    · cases d
  | sign a b c d e f =>
    rw [d] at hT
    simp only [Option.some.injEq, Prod.mk.injEq] at hT
    have h1 : t.is ≠ { data := #[110, 97, 109, 101] } ∧ t.is ≠ { data := #[110, 117, 109] } := by
      rw [e]
      rcases f with f | ⟨_, f, _⟩
      · rw [f]; exact ⟨ne_of_list (by decide), ne_of_list (by decide)⟩
      · rw [f]
        refine ⟨fun q => ?_, fun q => ?_⟩
        · have q := congrArg (fun x => x.size) q
          have q : (1 : Nat) = 4 := q
          omega
        · have q := congrArg (fun x => x.size) q
          have q : (1 : Nat) = 3 := q
          omega
    rw [← hT.1]
    exact ⟨by rw [sameS_f h1.1]; rfl, by rw [sameS_f h1.2]; rfl, fun q => by rcases q with q | q; exact absurd q h1.1; exact absurd q h1.2⟩
theorem isM_same {L : List Tk} {q : ByteArray} {k : Nat} : isM L q k (-1) = sameS (tkAt L k).is q := by
  unfold isM sameS
  rfl
end Go.Proofs.YtleenphlgbklmabGreatDoor

namespace Go.Proofs.YtleenphlgbklmabGreatDoor
open Go.RowKit

theorem tk_end {s : ByteArray} {kws : List ByteArray} {L : List Tk} (hE : PEnv s kws L) {k kd0 : Nat} (hk : k < L.length) (hT : pTok s (tkAt L k).loc = some (kd0, (tkAt L k).s, (tkAt L k).loc + (tkAt L k).s.size)) : (kd0 == 0) = sameS (tkAt L k).is { data := #[101, 110, 100] } := by
  have l := (tk_link hE.kw hE.eq k hk).2
  generalize tkAt L k = t at *
  cases l with
  | fin a b c d e =>
    rw [d] at hT
    simp only [Option.some.injEq, Prod.mk.injEq] at hT
    rw [← hT.1, b, (sameS_iff _ _).2 rfl]
    rfl
  | bad a b => rw [b] at hT; cases hT
  | word a b c d =>
    rw [c] at hT
    simp only [Option.some.injEq, Prod.mk.injEq] at hT
    rw [← hT.1, d]
    split
    · rename_i q
      rw [sameS_f (hE.kw.ne _ (kwIn_mem q)).2.2.1]
      rfl
    · rw [sameS_f (ne_of_list (by decide))]
      rfl
  | num a b c d e =>
    rw [d] at hT
    simp only [Option.some.injEq, Prod.mk.injEq] at hT
    rw [← hT.1, e, sameS_f (ne_of_list (by decide))]
    rfl
  | sign a b c d e f =>
    rw [d] at hT
    simp only [Option.some.injEq, Prod.mk.injEq] at hT
    have h1 : t.is ≠ { data := #[101, 110, 100] } := by
      rw [e]
      rcases f with f | ⟨_, f, _⟩
      · rw [f]; exact ne_of_list (by decide)
      · rw [f]
        intro q
        have q := congrArg (fun x => x.size) q
        have q : (1 : Nat) = 3 := q
        omega
    rw [← hT.1, sameS_f h1]
    rfl
end Go.Proofs.YtleenphlgbklmabGreatDoor

namespace Go.Proofs.YtleenphlgbklmabGreatDoor
open Go.RowKit
set_option maxRecDepth 20000 in
theorem ppt_throw (R : TypeId → Value → World → Prop) (s : ByteArray) (w : World)
    (HN : Hid (Calls Tryz.prog 50 #[.string s] ((w.alloc (.cells #[.nilIface] 77)).alloc (.cells #[.nilIface] 56)) fun e w' => ∃ T z, e = thrown (.iface T z) ∧ R T z w' ∧ Kept ((w.alloc (.cells #[.nilIface] 77)).alloc (.cells #[.nilIface] 56)) w')) :
    Calls Tryz.prog 35 #[.string s] w fun e w' => ∃ T z w2, e = .returned (.tuple #[.nilIface, .iface T z]) ∧ R T z w2 ∧ Kept w w' ∧ ∀ k o, w.heap.size + 2 ≤ k → w2.heap[k]? = some o → w'.heap[k]? = some o := by
  have hk1 : Kept w ((w.alloc (.cells #[.nilIface] 77)).alloc (.cells #[.nilIface] 56)) := (Kept.alloc _ _).trans (Kept.alloc _ _)
  have hp0 : ((w.alloc (.cells #[.nilIface] 77)).alloc (.cells #[.nilIface] 56)).heap[w.heap.size]? = some (.cells #[.nilIface] 77 (0, 0)) := (Kept.alloc _ _).blk (heap_alloc_new _ _)
  have hq0 : ((w.alloc (.cells #[.nilIface] 77)).alloc (.cells #[.nilIface] 56)).heap[w.heap.size + 1]? = some (.cells #[.nilIface] 56 (0, 0)) := by
    have := heap_alloc_new (w.alloc (.cells #[.nilIface] 77)) (.cells #[.nilIface] 56)
    simpa using this
  go_enter_defers Tryz.func35, Tryz.ntmps35
  go_wp2_with fail
  refine Calls.mono HN.out ?_
  rintro e w2 ⟨T, z, rfl, hR, hk2⟩
  have hp2 := hk2.blk hp0
  have hq2 := hk2.blk hq0
  refine leaves_cons (f := 48) (args := #[.pointer (some ⟨w.heap.size, 0, none⟩), .pointer (some ⟨w.heap.size + 1, 0, none⟩)]) (by simp) (by simp [go_sem]) ?_
  refine (catchT_panicking ⟨w.heap.size, 0, none⟩ ⟨w.heap.size + 1, 0, none⟩ .nilIface .nilIface T z [] w2 ?_ ?_ ?_ ?_ ?_).mono ?_
  · simp [World.cell?, hp2]
  · simp [World.frozen?, hp2]
  · simp [World.cell?, hq2]
  · simp [World.frozen?, hq2]
  · simp
  rintro e u' w'' ⟨rfl, rfl, hww⟩
  have hK : Kept w w'' := by
    have k3 : Kept w (w2.alloc (.cells #[.iface T z] 185)) := (hk1.trans hk2).trans (Kept.alloc _ _)
    rw [hww]
    exact ⟨k3.1, k3.2, by simpa using k3.3, fun q hq => (Below.heap_setCell _ _ _ q (by intro z; simp at z; omega)).trans ((Below.heap_setCell _ _ _ q (by intro z; simp at z; omega)).trans (k3.4 q hq))⟩
  have hp3 : (w2.alloc (.cells #[.iface T z] 185)).cell? ⟨w.heap.size, 0, none⟩ = some .nilIface := by simp [World.cell?, (Kept.alloc w2 (.cells #[.iface T z] 185)).blk hp2]
  have hq3 : (w2.alloc (.cells #[.iface T z] 185)).cell? ⟨w.heap.size + 1, 0, none⟩ = some .nilIface := by simp [World.cell?, (Kept.alloc w2 (.cells #[.iface T z] 185)).blk hq2]
  have cp : w''.cell? ⟨w.heap.size, 0, none⟩ = some .nilIface := by
    rw [hww, World.cell?_setCell_other _ _ _ _ (by simp)]
    exact World.cell?_setCell_same _ _ _ hp3
  have cq : w''.cell? ⟨w.heap.size + 1, 0, none⟩ = some (.iface T z) := by
    rw [hww]
    refine World.cell?_setCell_same _ _ _ (u := .nilIface) ?_
    rw [World.cell?_setCell_other _ _ _ _ (by simp)]
    exact hq3
  have hX : ∀ k o, w.heap.size + 2 ≤ k → w2.heap[k]? = some o → w''.heap[k]? = some o := by
    intro k o hk ho
    rw [hww]
    exact (Below.heap_setCell _ _ _ k (by intro z; simp at z; omega)).trans ((Below.heap_setCell _ _ _ k (by intro z; simp at z; omega)).trans ((Kept.alloc w2 _).blk ho))
  clear hww
  simp [Leaves, settle, results, Tryz.results35, go_sem, cp, cq]
  exact ⟨T, z, ⟨rfl, rfl⟩, w2, hR, hK, hX⟩

def tyWords : List ByteArray := [{ data := #[105, 110, 116] }, { data := #[98, 111, 111, 108] }]
theorem tyWordsOk : KwOk tyWords := by
  refine ⟨fun w hw => ?_, fun w hw => ?_⟩
  · simp only [tyWords, List.mem_cons, List.not_mem_nil, or_false] at hw
    rcases hw with rfl | rfl <;> exact ⟨ne_of_list (by decide), ne_of_list (by decide), ne_of_list (by decide), ne_of_list (by decide)⟩
  · simp only [tyWords, List.mem_cons, List.not_mem_nil, or_false] at hw
    rcases hw with rfl | rfl <;> decide
theorem lexT0 {s : ByteArray} {L : List Tk} (hE : PEnv s tyWords L) : 0 < L.length ∧ (tkAt L 0).loc = run blI s 0 := by
  have hk : ∀ w, w ∈ tyWords → w ≠ { data := #[110, 97, 109, 101] } := fun w hw => (tyWordsOk.ne w hw).1
  have hp : 0 < L.length := by rw [hE.eq]; exact toks_pos s tyWords
  refine ⟨hp, ?_⟩
  have h := (toks_next s tyWords hk (s.size + 1) 0 (Nat.zero_le _) 0 (by rw [← hE.eq]; exact hp)).1 rfl
  rw [← hE.eq] at h
  rw [h]
  rfl
theorem Tryz.mkV (w : World) : (Instr.makeMap 114 none).run Tryz.prog w = .ok (.map (some w.heap.size)) (w.alloc (.map #[] 0)) := by kernel_rfl
set_option maxRecDepth 20000 in
set_option maxHeartbeats 1000000 in
theorem pt_main {A : Nat → Addr} {s : ByteArray} {L : List Tk} (hE : PEnv s tyWords L) (w : World) (hG : Glb A w) (n : Nat) (t : Ty) (names : List ByteArray) (K : Nat) (B : Int) (hM : arrowM L n [] 0 (-1) = some (t, names, K, B)) (h0 : (tkAt L 0).is ≠ { data := #[110, 111, 110, 101] }) (R : Ending → World → Prop)
    (hsyn : ∀ (b l : Nat) (w' : World), Kept w w' → needB L { data := #[101, 110, 100] } K B = l → w'.heap[b]? = some (.cells #[.int .i64 l] 94 (0, 0)) → R (.returned (.tuple #[.nilIface, .iface 83 (.pointer (some ⟨b, 0, none⟩))])) w')
    (hbig : ∀ w' : World, Kept w w' → needB L { data := #[101, 110, 100] } K B < 0 → 120 < sz t → R (.returned (.tuple #[.nilIface, .iface 342 (.pointer (some (A 4)))])) w')
    (hok : ∀ (v : Value) (vb : List Nat) (w' : World), Kept w w' → needB L { data := #[101, 110, 100] } K B < 0 → sz t ≤ 120 → PTyR w' vb w.heap.size w'.heap.size t v → (∀ c, c ∈ vb → VBlk w' c ∧ w.heap.size ≤ c) → vb.Nodup → NB w' vb names → R (.returned (.tuple #[v, .nilIface])) w') :
    Calls Tryz.prog 35 #[.string s] w R := by
  have hk1 : Kept w ((w.alloc (.cells #[.nilIface] 77)).alloc (.cells #[.nilIface] 56)) := (Kept.alloc _ _).trans (Kept.alloc _ _)
  have hp0 : ((w.alloc (.cells #[.nilIface] 77)).alloc (.cells #[.nilIface] 56)).heap[w.heap.size]? = some (.cells #[.nilIface] 77 (0, 0)) := (Kept.alloc _ _).blk (heap_alloc_new _ _)
  have hq0 : ((w.alloc (.cells #[.nilIface] 77)).alloc (.cells #[.nilIface] 56)).heap[w.heap.size + 1]? = some (.cells #[.nilIface] 56 (0, 0)) := by
    have := heap_alloc_new (w.alloc (.cells #[.nilIface] 77)) (.cells #[.nilIface] 56)
    simpa using this
  have hs1 : ((w.alloc (.cells #[.nilIface] 77)).alloc (.cells #[.nilIface] 56)).heap.size = w.heap.size + 2 := by simp
  obtain ⟨hlp, hl0⟩ := lexT0 hE
  obtain ⟨kd, hT⟩ := tk_tok hE.kw hE.eq 0 hlp h0
  rw [hl0] at hT
  have HN : Hid _ := pnew_some s ((w.alloc (.cells #[.nilIface] 77)).alloc (.cells #[.nilIface] 56)) hE.sz kd _ _ hT
  have HT : Hid _ := hT
  have HSE : Hid _ := (ptref_all s tyWords L hE rfl n).1
  have HM : Hid _ := hM
  have HG : Hid _ := hG
  have HSYN : Hid _ := hsyn
  have HBIG : Hid _ := hbig
  have HOK : Hid _ := hok
  clear hM hG hT hsyn hbig hok
  generalize hW : ((w.alloc (.cells #[.nilIface] 77)).alloc (.cells #[.nilIface] 56)) = W at *
  go_enter_defers Tryz.func35, Tryz.ntmps35
  go_wp2_with fail
  refine Calls.mono HN.out ?_
  rintro e w2 ⟨rfl, hk2, hP2⟩
  have m2 := Tryz.mkV w2
  have hp2 := hk2.blk hp0
  have hq2 := hk2.blk hq0
  rw [hs1] at hP2
  have PA : PAt w2 (w.heap.size + 2) s L 0 := ⟨⟨kd, by rw [hl0]; exact hP2, by rw [hl0]; exact HT.out⟩, hlp, h0⟩
  have hkm : Kept w2 (w2.alloc (.map #[] 0)) := Kept.alloc _ _
  have hkr : Kept (w2.alloc (.map #[] 0)) ((w2.alloc (.map #[] 0)).alloc (.cells #[.pointer (some ⟨w.heap.size + 2, 0, none⟩), .map (some w2.heap.size)] 116)) := Kept.alloc _ _
  have hmp : ((w2.alloc (.map #[] 0)).alloc (.cells #[.pointer (some ⟨w.heap.size + 2, 0, none⟩), .map (some w2.heap.size)] 116)).heap[w2.heap.size]? = some (.map #[] 0) := hkr.blk (heap_alloc_new _ _)
  have hrc : ((w2.alloc (.map #[] 0)).alloc (.cells #[.pointer (some ⟨w.heap.size + 2, 0, none⟩), .map (some w2.heap.size)] 116)).heap[w2.heap.size + 1]? = some (.cells #[.pointer (some ⟨w.heap.size + 2, 0, none⟩), .map (some w2.heap.size)] 116 (0, 0)) := by
    have := heap_alloc_new (w2.alloc (.map #[] 0)) (.cells #[.pointer (some ⟨w.heap.size + 2, 0, none⟩), .map (some w2.heap.size)] 116)
    simpa using this
  have hk23 := hkm.trans hkr
  have hp3 := hk23.blk hp2
  have hq3 := hk23.blk hq2
  have hs2 : w.heap.size + 2 < w2.heap.size := PA.lt'
  have KW3 := (hk1.trans hk2).trans hk23
  have PA3 := PA.kept hk23
  clear HN hP2 PA hkm hkr
  rw [hs1]
  go_wp2_with fail
  generalize hw3 : ((w2.alloc (.map #[] 0)).alloc (.cells #[.pointer (some ⟨w.heap.size + 2, 0, none⟩), .map (some w2.heap.size)] 116)) = w3 at *
  have hV3 : VM w3 w2.heap.size [] [] := ⟨rfl, by simpa [vEs] using hmp, fun j hj => by simp at hj⟩
  have a3 : w3.cell? ⟨w2.heap.size + 1, 0, none⟩ = some (.pointer (some ⟨w.heap.size + 2, 0, none⟩)) := by simp [World.cell?, hrc]
  have HX : Hid _ := HSE.out w3 (w.heap.size + 2) w2.heap.size 0 [] [] t names K B PA3 hV3 (NmOk.nil L) (by omega) HM.out
  have hokN := ((tread_ok L hE.good n).1 _ _ _ _ _ _ _ HM.out hlp (NmOk.nil L))
  refine Calls.mono HX.out ?_
  intro e w4 hres
  clear HX
  by_cases hz : 0 ≤ bz L K B
  · have hor : 0 ≤ B ∨ (tkAt L K).is = { data := #[110, 111, 110, 101] } := by
      by_cases hb : 0 ≤ B
      · exact .inl hb
      · by_cases hn : (tkAt L K).is = { data := #[110, 111, 110, 101] }
        · exact .inr hn
        · rw [bz_ok (by omega) hn] at hz; omega
    obtain ⟨l, hl, b, he, hb4, hb, kq⟩ := hres.thrown hor
    have hbz : bz L K B = l := by
      rcases hl with h1 | ⟨h1, h2, h3⟩
      · rw [h1]; exact bz_ge (by omega)
      · rw [bz_none h1 h2, h3]
    have hn : needB L { data := #[101, 110, 100] } K B = l := (need_bz hz (by decide)).2.trans hbz
    have hp := (kq.block _ (lt_of_block hp3) (by show ¬ _; omega)).trans hp3
    have hq := (kq.block _ (lt_of_block hq3) (by show ¬ _; omega)).trans hq3
    have KW : Kept w w4 := ⟨kq.os.trans KW3.os, kq.output.trans KW3.output, Nat.le_trans KW3.size kq.size, fun q h1 => (kq.block q (Nat.lt_of_lt_of_le h1 KW3.size) (by show ¬ _; omega)).trans (KW3.block q h1)⟩
    have hbb : w.heap.size + 2 ≤ b := by have := lt_of_block hrc; omega
    rw [he]
    clear he hres kq hp3 hq3
    refine leaves_cons (f := 48) (args := #[.pointer (some ⟨w.heap.size, 0, none⟩), .pointer (some ⟨w.heap.size + 1, 0, none⟩)]) (by simp) (by simp [go_sem]) ?_
    refine (catchT_panicking ⟨w.heap.size, 0, none⟩ ⟨w.heap.size + 1, 0, none⟩ .nilIface .nilIface 83 (.pointer (some ⟨b, 0, none⟩)) [] w4 ?_ ?_ ?_ ?_ ?_).mono ?_
    · simp [World.cell?, hp]
    · simp [World.frozen?, hp]
    · simp [World.cell?, hq]
    · simp [World.frozen?, hq]
    · simp
    rintro e u' w'' ⟨rfl, rfl, hww⟩
    have hK : Kept w w'' := by
      have k3 : Kept w (w4.alloc (.cells #[.iface 83 (.pointer (some ⟨b, 0, none⟩))] 185)) := KW.trans (Kept.alloc _ _)
      rw [hww]
      exact ⟨k3.1, k3.2, by simpa using k3.3, fun q hq => (Below.heap_setCell _ _ _ q (by intro z; simp at z; omega)).trans ((Below.heap_setCell _ _ _ q (by intro z; simp at z; omega)).trans (k3.4 q hq))⟩
    have hp3 : (w4.alloc (.cells #[.iface 83 (.pointer (some ⟨b, 0, none⟩))] 185)).cell? ⟨w.heap.size, 0, none⟩ = some .nilIface := by simp [World.cell?, (Kept.alloc w4 (.cells #[.iface 83 (.pointer (some ⟨b, 0, none⟩))] 185)).blk hp]
    have hq3 : (w4.alloc (.cells #[.iface 83 (.pointer (some ⟨b, 0, none⟩))] 185)).cell? ⟨w.heap.size + 1, 0, none⟩ = some .nilIface := by simp [World.cell?, (Kept.alloc w4 (.cells #[.iface 83 (.pointer (some ⟨b, 0, none⟩))] 185)).blk hq]
    have cp : w''.cell? ⟨w.heap.size, 0, none⟩ = some .nilIface := by
      rw [hww, World.cell?_setCell_other _ _ _ _ (by simp)]
      exact World.cell?_setCell_same _ _ _ hp3
    have cq : w''.cell? ⟨w.heap.size + 1, 0, none⟩ = some (.iface 83 (.pointer (some ⟨b, 0, none⟩))) := by
      rw [hww]
      refine World.cell?_setCell_same _ _ _ (u := .nilIface) ?_
      rw [World.cell?_setCell_other _ _ _ _ (by simp)]
      exact hq3
    have hX : ∀ k o, w.heap.size + 2 ≤ k → w4.heap[k]? = some o → w''.heap[k]? = some o := by
      intro k o hk ho
      rw [hww]
      exact (Below.heap_setCell _ _ _ k (by intro z; simp at z; omega)).trans ((Below.heap_setCell _ _ _ k (by intro z; simp at z; omega)).trans ((Kept.alloc w4 _).blk ho))
    clear hww
    have FIN : Hid _ := HSYN.out b l _ hK hn (hX b _ hbb hb4)
    simp [Leaves, settle, results, Tryz.results35, go_sem, cp, cq]
    exact FIN.out
  obtain ⟨hB, hnn⟩ := bz_neg (show bz L K B < 0 by omega)
  obtain ⟨v, vb, he, hv, hEnd⟩ := hres.1 hB hnn
  clear hz hres
  subst he
  have kq := hEnd.kp
  have P4 := hEnd.at'
  have V4 := hEnd.vm
  have hp := (kq.block _ (lt_of_block hp3) (by show ¬ _; omega)).trans hp3
  have hq := (kq.block _ (lt_of_block hq3) (by show ¬ _; omega)).trans hq3
  have hrc4 := (kq.block _ (lt_of_block hrc) (by show ¬ _; omega)).trans hrc
  have KW : Kept w w4 := ⟨kq.os.trans KW3.os, kq.output.trans KW3.output, Nat.le_trans KW3.size kq.size, fun q h1 => (kq.block q (Nat.lt_of_lt_of_le h1 KW3.size) (by show ¬ _; omega)).trans (KW3.block q h1)⟩
  obtain ⟨T, u, rfl⟩ := hv.iface
  have hvb := V4.vblk
  have hnb : NB w4 vb names := ⟨V4.len, V4.vr⟩
  have hnd := V4.nodup hokN.2.nd
  have hfr : ∀ c, c ∈ vb → w.heap.size ≤ c := fun c hc => by
    obtain ⟨u', e1, e2⟩ := hEnd.pre
    rw [e1] at hc
    exact Nat.le_trans KW3.size (e2 c (by simpa using hc))
  have HFR : Hid _ := hfr
  have cp4 : w4.cell? ⟨w.heap.size, 0, none⟩ = some .nilIface := by simp [World.cell?, hp]
  have fp4 : w4.frozen? ⟨w.heap.size, 0, none⟩ = false := by simp [World.frozen?, hp]
  have h5b : ∀ b, b ≠ w.heap.size → (w4.setCell ⟨w.heap.size, 0, none⟩ (.iface T u)).heap[b]? = w4.heap[b]? := fun b hb => Below.heap_setCell _ _ _ b (by intro z; simp at z; omega)
  have hp5 : (w4.setCell ⟨w.heap.size, 0, none⟩ (.iface T u)).heap[w.heap.size]? = some (.cells #[.iface T u] 77 (0, 0)) := by simp [World.setCell, hp, Array.getElem?_modify]
  have hq5 := (h5b (w.heap.size + 1) (by omega)).trans hq
  have hrc5 := (h5b (w2.heap.size + 1) (by omega)).trans hrc4
  have P5 : PAt (w4.setCell ⟨w.heap.size, 0, none⟩ (.iface T u)) (w.heap.size + 2) s L K := by
    obtain ⟨kd, e1, e2⟩ := P4.ex
    exact ⟨⟨kd, (h5b _ (by omega)).trans e1, e2⟩, P4.lt, P4.nn⟩
  have hkp5 : ∀ (k : Nat) (cs : Array Value) (e : TypeId) (f : Nat × Nat), e ≠ 77 → w4.heap[k]? = some (.cells cs e f) → (w4.setCell ⟨w.heap.size, 0, none⟩ (.iface T u)).heap[k]? = some (.cells cs e f) := fun k cs e f he hk => (h5b k (fun z => by
    rw [z, hp] at hk
    simp only [Option.some.injEq, Obj.cells.injEq] at hk
    exact he hk.2.1.symm)).trans hk
  have X5 : PTyR (w4.setCell ⟨w.heap.size, 0, none⟩ (.iface T u)) vb w.heap.size (w4.setCell ⟨w.heap.size, 0, none⟩ (.iface T u)).heap.size t (.iface T u) := (hv.keep (fun k cs e f he hk => hkp5 k cs e f (by rcases he with rfl | rfl | rfl <;> decide) hk)).wide KW3.size (by simp)
  have hvb5 : ∀ c, c ∈ vb → VBlk (w4.setCell ⟨w.heap.size, 0, none⟩ (.iface T u)) c := fun c hc => by
    obtain ⟨nm, h1⟩ := hvb c hc
    exact ⟨nm, hkp5 c _ _ _ (by decide) h1⟩
  have hnb5 : NB (w4.setCell ⟨w.heap.size, 0, none⟩ (.iface T u)) vb names := ⟨hnb.1, fun j hj => hkp5 _ _ _ _ (by decide) (hnb.2 j hj)⟩
  have KW5 : Kept w (w4.setCell ⟨w.heap.size, 0, none⟩ (.iface T u)) := ⟨KW.1, KW.2, by simpa using KW.3, fun q h1 => (h5b q (by omega)).trans (KW.4 q h1)⟩
  have hws : w.heap.size + 2 ≤ (w4.setCell ⟨w.heap.size, 0, none⟩ (.iface T u)).heap.size := by have := lt_of_block hq; simp; omega
  clear hp hq hrc4 P4 hv KW hrc h5b hfr hp3 hq3 hp2 hq2 hp0 hq0 hEnd V4 hvb hnb hV3 hmp kq hkp5
  generalize hw5 : w4.setCell ⟨w.heap.size, 0, none⟩ (.iface T u) = w5 at *
  have a5 : w5.cell? ⟨w2.heap.size + 1, 0, none⟩ = some (.pointer (some ⟨w.heap.size + 2, 0, none⟩)) := by simp [World.cell?, hrc5]
  have cp5 : w5.cell? ⟨w.heap.size, 0, none⟩ = some (.iface T u) := by simp [World.cell?, hp5]
  obtain ⟨kdK, hr5, hT5⟩ := P5.ex
  have hend := tk_end hE P5.lt hT5
  have hB1 : B = -1 := ((tread_bad L n).1 _ _ _ _ _ _ _ HM.out).2 hB
  subst hB1
  by_cases hke : kdK = 0
  · have hme : isM L { data := #[101, 110, 100] } K (-1) = true := by rw [isM_same, ← hend, hke]; rfl
    have hneg : needB L { data := #[101, 110, 100] } K (-1) < 0 := by rw [(need_true hme).2]; omega
    have HEN : Hid _ := pexpend_any w5 (w.heap.size + 2) s _ kdK _ hr5 hke
    have c4 := (HG.out.kept KW5).c4
    clear hr5 hT5 hend hke
    go_wp2_with fail
    refine Calls.mono HEN.out ?_
    rintro e w' ⟨rfl, hww⟩
    rw [hww]
    clear hww w' HEN
    have HDP : Hid _ := above_ty X5.ty hvb5
    go_wp2_with fail
    refine Calls.mono HDP.out ?_
    rintro e w6 ⟨rfl, hk6⟩
    have d1 := hk6.cell c4
    have hp := hk6.blk hp5
    have hq := hk6.blk hq5
    have cp6 : w6.cell? ⟨w.heap.size, 0, none⟩ = some (.iface T u) := by simp [World.cell?, hp]
    have fp6 : w6.frozen? ⟨w.heap.size, 0, none⟩ = false := by simp [World.frozen?, hp]
    have cq6 : w6.cell? ⟨w.heap.size + 1, 0, none⟩ = some .nilIface := by simp [World.cell?, hq]
    have fq6 : w6.frozen? ⟨w.heap.size + 1, 0, none⟩ = false := by simp [World.frozen?, hq]
    have KW : Kept w w6 := KW5.trans hk6
    have X6 := X5.keep (PKeep.kept hk6)
    have hvb6 : ∀ c, c ∈ vb → VBlk w6 c := fun c hc => (hvb5 c hc).kept hk6
    have hnb6 : NB w6 vb names := ⟨hnb5.1, fun j hj => hk6.blk (hnb5.2 j hj)⟩
    clear HDP
    by_cases hd : 120 < sz t
    · have hdd : decide (120 < sz t) = true := by simp [hd]
      rw [hdd]
      go_wp2_with (go_at_call 54; refine Calls.mono (prefuse_es _ _) ?_; rintro e w' ⟨he, hww⟩; rw [hww, he]; clear hww he w' e)
      refine leaves_cons (f := 48) (args := #[.pointer (some ⟨w.heap.size, 0, none⟩), .pointer (some ⟨w.heap.size + 1, 0, none⟩)]) (by simp) (by simp [go_sem]) ?_
      refine (catchT_panicking ⟨w.heap.size, 0, none⟩ ⟨w.heap.size + 1, 0, none⟩ (.iface T u) .nilIface 342 (.pointer (some (A 4))) [] w6 ?_ ?_ ?_ ?_ ?_).mono ?_
      · simp [World.cell?, hp]
      · simp [World.frozen?, hp]
      · simp [World.cell?, hq]
      · simp [World.frozen?, hq]
      · simp
      rintro e u' w'' ⟨rfl, rfl, hww⟩
      have hK : Kept w w'' := by
        have k3 : Kept w (w6.alloc (.cells #[.iface 342 (.pointer (some (A 4)))] 185)) := KW.trans (Kept.alloc _ _)
        rw [hww]
        exact ⟨k3.1, k3.2, by simpa using k3.3, fun q hq => (Below.heap_setCell _ _ _ q (by intro z; simp at z; omega)).trans ((Below.heap_setCell _ _ _ q (by intro z; simp at z; omega)).trans (k3.4 q hq))⟩
      have hp3 : (w6.alloc (.cells #[.iface 342 (.pointer (some (A 4)))] 185)).cell? ⟨w.heap.size, 0, none⟩ = some (.iface T u) := by simp [World.cell?, (Kept.alloc w6 (.cells #[.iface 342 (.pointer (some (A 4)))] 185)).blk hp]
      have hq3 : (w6.alloc (.cells #[.iface 342 (.pointer (some (A 4)))] 185)).cell? ⟨w.heap.size + 1, 0, none⟩ = some .nilIface := by simp [World.cell?, (Kept.alloc w6 (.cells #[.iface 342 (.pointer (some (A 4)))] 185)).blk hq]
      have cp : w''.cell? ⟨w.heap.size, 0, none⟩ = some .nilIface := by
        rw [hww, World.cell?_setCell_other _ _ _ _ (by simp)]
        exact World.cell?_setCell_same _ _ _ hp3
      have cq : w''.cell? ⟨w.heap.size + 1, 0, none⟩ = some (.iface 342 (.pointer (some (A 4)))) := by
        rw [hww]
        refine World.cell?_setCell_same _ _ _ (u := .nilIface) ?_
        rw [World.cell?_setCell_other _ _ _ _ (by simp)]
        exact hq3
      have hX : ∀ k o, w.heap.size + 2 ≤ k → w6.heap[k]? = some o → w''.heap[k]? = some o := by
        intro k o hk ho
        rw [hww]
        exact (Below.heap_setCell _ _ _ k (by intro z; simp at z; omega)).trans ((Below.heap_setCell _ _ _ k (by intro z; simp at z; omega)).trans ((Kept.alloc w6 _).blk ho))
      clear hww
      have FIN : Hid _ := HBIG.out _ hK hneg hd
      simp [Leaves, settle, results, Tryz.results35, go_sem, cp, cq]
      exact FIN.out
    · have hdd : decide (120 < sz t) = false := by simp [hd]
      rw [hdd]
      have h7b : ∀ b, b ≠ w.heap.size → b ≠ w.heap.size + 1 → ((w6.setCell ⟨w.heap.size, 0, none⟩ (.iface T u)).setCell ⟨w.heap.size + 1, 0, none⟩ .nilIface).heap[b]? = w6.heap[b]? := fun b h1 h2 => (Below.heap_setCell _ _ _ b (by intro z; simp at z; omega)).trans (Below.heap_setCell _ _ _ b (by intro z; simp at z; omega))
      have cp : ((w6.setCell ⟨w.heap.size, 0, none⟩ (.iface T u)).setCell ⟨w.heap.size + 1, 0, none⟩ .nilIface).cell? ⟨w.heap.size, 0, none⟩ = some (.iface T u) := by
        rw [World.cell?_setCell_other _ _ _ _ (by simp)]
        exact World.cell?_setCell_same _ _ _ cp6
      have cq : ((w6.setCell ⟨w.heap.size, 0, none⟩ (.iface T u)).setCell ⟨w.heap.size + 1, 0, none⟩ .nilIface).cell? ⟨w.heap.size + 1, 0, none⟩ = some .nilIface := by
        refine World.cell?_setCell_same _ _ _ (u := .nilIface) ?_
        rw [World.cell?_setCell_other _ _ _ _ (by simp)]
        exact cq6
      have hkp7 : ∀ (k : Nat) (cs : Array Value) (e : TypeId) (f : Nat × Nat), e ≠ 77 → e ≠ 56 → w6.heap[k]? = some (.cells cs e f) → ((w6.setCell ⟨w.heap.size, 0, none⟩ (.iface T u)).setCell ⟨w.heap.size + 1, 0, none⟩ .nilIface).heap[k]? = some (.cells cs e f) := fun k cs e f he he2 hk => (h7b k (fun z => by
        rw [z, hp] at hk
        simp only [Option.some.injEq, Obj.cells.injEq] at hk
        exact he hk.2.1.symm) (fun z => by
        rw [z, hq] at hk
        simp only [Option.some.injEq, Obj.cells.injEq] at hk
        exact he2 hk.2.1.symm)).trans hk
      have hK : Kept w ((w6.setCell ⟨w.heap.size, 0, none⟩ (.iface T u)).setCell ⟨w.heap.size + 1, 0, none⟩ .nilIface) := ⟨KW.1, KW.2, by simpa using KW.3, fun q h1 => (h7b q (by omega) (by omega)).trans (KW.4 q h1)⟩
      have XF : PTyR ((w6.setCell ⟨w.heap.size, 0, none⟩ (.iface T u)).setCell ⟨w.heap.size + 1, 0, none⟩ .nilIface) vb w.heap.size ((w6.setCell ⟨w.heap.size, 0, none⟩ (.iface T u)).setCell ⟨w.heap.size + 1, 0, none⟩ .nilIface).heap.size t (.iface T u) := (X6.keep (fun k cs e f he hk => hkp7 k cs e f (by rcases he with rfl | rfl | rfl <;> decide) (by rcases he with rfl | rfl | rfl <;> decide) hk)).wide (Nat.le_refl _) (by simp; exact hk6.size)
      have hvF : ∀ c, c ∈ vb → VBlk ((w6.setCell ⟨w.heap.size, 0, none⟩ (.iface T u)).setCell ⟨w.heap.size + 1, 0, none⟩ .nilIface) c := fun c hc => by
        obtain ⟨nm, h1⟩ := hvb6 c hc
        exact ⟨nm, hkp7 c _ _ _ (by decide) (by decide) h1⟩
      have hnF : NB ((w6.setCell ⟨w.heap.size, 0, none⟩ (.iface T u)).setCell ⟨w.heap.size + 1, 0, none⟩ .nilIface) vb names := ⟨hnb6.1, fun j hj => hkp7 _ _ _ _ (by decide) (by decide) (hnb6.2 j hj)⟩
      have FIN : Hid _ := HOK.out (.iface T u) vb _ hK hneg (by omega) XF (fun c hc => ⟨hvF c hc, HFR.out c hc⟩) hnd hnF
      clear h7b XF X6 X5 hK hkp7 hvF hvb6 hvb5 hnF hnb6 hnb5 hdd
      go_wp2_with fail
      refine leaves_cons (f := 48) (args := #[.pointer (some ⟨w.heap.size, 0, none⟩), .pointer (some ⟨w.heap.size + 1, 0, none⟩)]) (by simp) (by simp [go_sem]) ?_
      refine (catchT_idle ⟨w.heap.size, 0, none⟩ ⟨w.heap.size + 1, 0, none⟩ _).mono ?_
      rintro e u' w'' ⟨rfl, rfl, rfl⟩
      simp [Leaves, settle, results, Tryz.results35, go_sem, cp, cq]
      exact FIN.out
  · have hme : isM L { data := #[101, 110, 100] } K (-1) = false := by
      rw [isM_same, ← hend]
      simp [hke]
    have hn : needB L { data := #[101, 110, 100] } K (-1) = (tkAt L K).loc := (need_false hme).2
    have HEN : Hid _ := pexpend_bad w5 (w.heap.size + 2) s _ kdK _ hr5 hke
    clear hr5 hT5 hend hke hme
    go_wp2_with fail
    refine Calls.mono HEN.out ?_
    rintro e w6 ⟨b, he, hb4, hb, hk6⟩
    have hp := hk6.blk hp5
    have hq := hk6.blk hq5
    have KW : Kept w w6 := KW5.trans hk6
    have hbb : w.heap.size + 2 ≤ b := by omega
    rw [he]
    clear he HEN
    refine leaves_cons (f := 48) (args := #[.pointer (some ⟨w.heap.size, 0, none⟩), .pointer (some ⟨w.heap.size + 1, 0, none⟩)]) (by simp) (by simp [go_sem]) ?_
    refine (catchT_panicking ⟨w.heap.size, 0, none⟩ ⟨w.heap.size + 1, 0, none⟩ (.iface T u) .nilIface 83 (.pointer (some ⟨b, 0, none⟩)) [] w6 ?_ ?_ ?_ ?_ ?_).mono ?_
    · simp [World.cell?, hp]
    · simp [World.frozen?, hp]
    · simp [World.cell?, hq]
    · simp [World.frozen?, hq]
    · simp
    rintro e u' w'' ⟨rfl, rfl, hww⟩
    have hK : Kept w w'' := by
      have k3 : Kept w (w6.alloc (.cells #[.iface 83 (.pointer (some ⟨b, 0, none⟩))] 185)) := KW.trans (Kept.alloc _ _)
      rw [hww]
      exact ⟨k3.1, k3.2, by simpa using k3.3, fun q hq => (Below.heap_setCell _ _ _ q (by intro z; simp at z; omega)).trans ((Below.heap_setCell _ _ _ q (by intro z; simp at z; omega)).trans (k3.4 q hq))⟩
    have hp3 : (w6.alloc (.cells #[.iface 83 (.pointer (some ⟨b, 0, none⟩))] 185)).cell? ⟨w.heap.size, 0, none⟩ = some (.iface T u) := by simp [World.cell?, (Kept.alloc w6 (.cells #[.iface 83 (.pointer (some ⟨b, 0, none⟩))] 185)).blk hp]
    have hq3 : (w6.alloc (.cells #[.iface 83 (.pointer (some ⟨b, 0, none⟩))] 185)).cell? ⟨w.heap.size + 1, 0, none⟩ = some .nilIface := by simp [World.cell?, (Kept.alloc w6 (.cells #[.iface 83 (.pointer (some ⟨b, 0, none⟩))] 185)).blk hq]
    have cp : w''.cell? ⟨w.heap.size, 0, none⟩ = some .nilIface := by
      rw [hww, World.cell?_setCell_other _ _ _ _ (by simp)]
      exact World.cell?_setCell_same _ _ _ hp3
    have cq : w''.cell? ⟨w.heap.size + 1, 0, none⟩ = some (.iface 83 (.pointer (some ⟨b, 0, none⟩))) := by
      rw [hww]
      refine World.cell?_setCell_same _ _ _ (u := .nilIface) ?_
      rw [World.cell?_setCell_other _ _ _ _ (by simp)]
      exact hq3
    have hX : ∀ k o, w.heap.size + 2 ≤ k → w6.heap[k]? = some o → w''.heap[k]? = some o := by
      intro k o hk ho
      rw [hww]
      exact (Below.heap_setCell _ _ _ k (by intro z; simp at z; omega)).trans ((Below.heap_setCell _ _ _ k (by intro z; simp at z; omega)).trans ((Kept.alloc w6 _).blk ho))
    clear hww
    have FIN : Hid _ := HSYN.out b _ _ hK hn (hX b _ hbb hb4)
    simp [Leaves, settle, results, Tryz.results35, go_sem, cp, cq]
    exact FIN.out
end Go.Proofs.YtleenphlgbklmabGreatDoor

namespace Go.Proofs.YtleenphlgbklmabGreatDoor
open Go.RowKit

/-- behind parseType: what its ways out are. -/
def TPost (A : Nat → Addr) (w : World) (F : Int) (t : Ty) (names : List ByteArray) (e : Ending) (w' : World) : Prop := Kept w w' ∧
  ((∃ b l : Nat, F = l ∧ e = .returned (.tuple #[.nilIface, .iface 83 (.pointer (some ⟨b, 0, none⟩))]) ∧ w'.heap[b]? = some (.cells #[.int .i64 l] 94 (0, 0))) ∨
  (F < 0 ∧ 120 < sz t ∧ e = .returned (.tuple #[.nilIface, .iface 342 (.pointer (some (A 4)))])) ∨
  (F < 0 ∧ sz t ≤ 120 ∧ ∃ v vb, e = .returned (.tuple #[v, .nilIface]) ∧ PTyR w' vb w.heap.size w'.heap.size t v ∧ (∀ c, c ∈ vb → VBlk w' c ∧ w.heap.size ≤ c) ∧ vb.Nodup ∧ NB w' vb names))
/-- at no token the fault stays. -/
theorem tstk (L : List Tk) (n : Nat) (t : Ty) (names : List ByteArray) (K : Nat) (B : Int) (hM : arrowM L n [] 0 (-1) = some (t, names, K, B)) (h0 : (tkAt L 0).is = { data := #[110, 111, 110, 101] }) : needB L { data := #[101, 110, 100] } K B = (tkAt L 0).loc := by
  have e := (tread_none L n [] 0 (-1) (by omega) h0).2 _ _ _ _ hM
  rw [e]
  exact needB_geT (by omega)
theorem ptype_any {A : Nat → Addr} {s : ByteArray} {L : List Tk} (hE : PEnv s tyWords L) (w : World) (hG : Glb A w) (n : Nat) (t : Ty) (names : List ByteArray) (K : Nat) (B : Int) (hM : arrowM L n [] 0 (-1) = some (t, names, K, B)) :
    Calls Tryz.prog 35 #[.string s] w (TPost A w (needB L { data := #[101, 110, 100] } K B) t names) := by
  by_cases h0 : (tkAt L 0).is = { data := #[110, 111, 110, 101] }
  · obtain ⟨hlp, hl0⟩ := lexT0 hE
    have hT := tk_none hE.kw hE.eq 0 hlp h0
    rw [hl0] at hT
    have hn : needB L { data := #[101, 110, 100] } K B = (run blI s 0 : Nat) := by rw [tstk L n t names K B hM h0, hl0]
    have HN : Hid _ := (pnew_none s ((w.alloc (.cells #[.nilIface] 77)).alloc (.cells #[.nilIface] 56)) hE.sz hT).mono (R' := fun e w' => ∃ T z, e = thrown (.iface T z) ∧ (fun T z w2 => ∃ b : Nat, T = 83 ∧ z = .pointer (some ⟨b, 0, none⟩) ∧ w2.heap[b]? = some (.cells #[.int .i64 (run blI s 0 : Nat)] 94 (0, 0)) ∧ w.heap.size + 2 ≤ b) T z w' ∧ Kept ((w.alloc (.cells #[.nilIface] 77)).alloc (.cells #[.nilIface] 56)) w') (fun e w' ⟨b, h1, h2, h3, h4⟩ => ⟨_, _, h1, ⟨b, rfl, rfl, h2, by simpa using h3⟩, h4⟩)
    refine (ppt_throw _ s w HN).mono ?_
    rintro e w' ⟨T, z, w2, rfl, ⟨b, rfl, rfl, hb, hbb⟩, hK, hX⟩
    exact ⟨hK, .inl ⟨b, _, hn, rfl, hX b _ hbb hb⟩⟩
  · exact pt_main hE w hG n t names K B hM h0 _ (fun b l w' hK hn hb => ⟨hK, .inl ⟨b, l, hn, rfl, hb⟩⟩) (fun w' hK h1 h2 => ⟨hK, .inr (.inl ⟨h1, h2, rfl⟩)⟩) (fun v vb w' hK h1 h2 hx hv hi hn => ⟨hK, .inr (.inr ⟨h1, h2, v, vb, rfl, hx, hv, hi, hn⟩)⟩)
theorem ptype_long {A : Nat → Addr} (s : ByteArray) (w : World) (hG : Glb A w) (h : 300 < s.size) (hm : s.size ≤ 9223372036854775807) :
    Calls Tryz.prog 35 #[.string s] w fun e w' => e = .returned (.tuple #[.nilIface, .iface 342 (.pointer (some (A 0)))]) ∧ Kept w w' := by
  have hk1 : Kept w ((w.alloc (.cells #[.nilIface] 77)).alloc (.cells #[.nilIface] 56)) := (Kept.alloc _ _).trans (Kept.alloc _ _)
  have HN : Hid _ := (pnew_long s _ (hG.kept hk1) h hm).mono (R' := fun e w' => ∃ T z, e = thrown (.iface T z) ∧ (fun T z _ => T = 342 ∧ z = Value.pointer (some (A 0))) T z w' ∧ Kept ((w.alloc (.cells #[.nilIface] 77)).alloc (.cells #[.nilIface] 56)) w') (fun e w' ⟨h1, h2⟩ => ⟨_, _, h1, ⟨rfl, rfl⟩, h2⟩)
  refine (ppt_throw (fun T z _ => T = 342 ∧ z = Value.pointer (some (A 0))) s w HN).mono ?_
  rintro e w' ⟨T, z, w2, rfl, ⟨rfl, rfl⟩, hK, _⟩
  exact ⟨rfl, hK⟩
set_option maxRecDepth 20000 in
theorem canon_err (s : ByteArray) (w : World) (R : TypeId → Value → World → Prop) (HP : Hid (Calls Tryz.prog 35 #[.string s] w fun e w' => ∃ T z, e = .returned (.tuple #[.nilIface, .iface T z]) ∧ Hid (R T z w'))) :
    Calls Tryz.prog 21 #[.string s] w fun e w' => ∃ T z, e = .returned (.tuple #[.string { data := #[] }, .iface T z]) ∧ Hid (R T z w') := by
  go_enter Tryz.func21, Tryz.ntmps21
  go_wp2_with fail
  refine Calls.mono HP.out ?_
  rintro e w1 ⟨T, z, rfl, HR⟩
  clear HP
  go_wp2
  exact bodyPost_ret (v := .tuple #[.string { data := #[] }, .iface T z]) (by simp [results, Tryz.results21, go_sem]) rfl ⟨T, z, rfl, HR⟩
set_option maxRecDepth 20000 in
theorem Kt.keptFrom {ad : List Nat} {S : Nat → Prop} {w a b : World} (h0 : Kept w a) (h : Kt ad S a b) (hS : ∀ q, q < w.heap.size → ¬ S q) (hA : ∀ q, q ∈ ad → w.heap.size ≤ q) : Kept w b := ⟨h.os.trans h0.os, h.output.trans h0.output, Nat.le_trans h0.size h.size, fun q hq => by
  have e : w.heap[q]? = some w.heap[q] := by simp
  rw [e]
  exact h.blk0 q _ ((h0.block q hq).trans e) (hS q hq) (fun _ z => by have := hA q z; omega)⟩
set_option maxRecDepth 20000 in
theorem canon_ok (s : ByteArray) (w : World) (t : Ty) (hs : sz t ≤ 120) (HP : Hid (Calls Tryz.prog 35 #[.string s] w fun e w' => ∃ v ad σ r, e = .returned (.tuple #[v, .nilIface]) ∧ SX w' ad σ ∧ RV ad r v ∧ Dn σ r t ∧ (∀ c, c ∈ ad → w.heap.size ≤ c) ∧ Kept w w')) :
    Calls Tryz.prog 21 #[.string s] w fun e w' => e = .returned (.tuple #[.string (canT t), .nilIface]) ∧ Kept w w' := by
  go_enter Tryz.func21, Tryz.ntmps21
  go_wp2_with fail
  refine Calls.mono HP.out ?_
  rintro e w1 ⟨v, ad, σ, r, rfl, hx, hv, hd, hA, hk1⟩
  have HN : Hid _ := pnio_any w1
  have HS : Hid (∀ w2 nb mb, w2.heap[nb]? = some (.cells #[.map (some mb)] 123 (0, 0)) → NM w2 mb [] → Kp (fun _ => False) w1 w2 → Calls Tryz.prog 36 #[v, .func (.func 57) #[] #[.pointer (some ⟨nb, 0, none⟩)]] w2 fun e w' => e = .returned (.string (canT t)) ∧ SX w' ad σ ∧ Kt ad (· = mb) w2 w') := fun w2 nb mb h1 h2 h3 => show_num w2 nb mb ad σ r t v (hx.keep (fun _ _ _ ho => h3.blk ho id)) hv hd (by omega) h1 (by have := h2.mp; simpa [nFrom] using this)
  obtain ⟨T, u, rfl⟩ := hv.iface
  have HK1 : Hid _ := hk1
  clear HP hx hv hd hk1
  go_wp2_with fail
  refine Calls.mono HN.out ?_
  rintro e w2 ⟨nb, mb, rfl, hb2, hm2, hk2, hmb⟩
  have HS2 : Hid _ := HS.out w2 nb mb hb2 hm2 hk2
  clear HN HS hb2 hm2
  go_wp2_with fail
  refine Calls.mono HS2.out ?_
  rintro e w3 ⟨rfl, _, hk3⟩
  have HKF : Hid (Kept w w3) := Kt.keptFrom (HK1.out.trans (Kept.of0 hk2)) hk3 (fun q hq z => by
    have z : q = mb := z
    have := HK1.out.size
    omega) hA
  clear HS2 hk3 hk2 HK1
  go_wp2
  exact bodyPost_ret (v := .tuple #[.string (canT t), .nilIface]) (by simp [results, Tryz.results21, go_sem]) rfl ⟨rfl, HKF.out⟩
set_option maxRecDepth 20000 in
set_option maxHeartbeats 2000000 in
theorem pl_canon (s : ByteArray) (w : World) (R : ByteArray → Int → Int → Prop) (HP : Hid (Calls Tryz.prog 21 #[.string s] (w.alloc (.cells #[.int .i64 0, .int .i64 0, .string { data := #[] }, .int .i64 0, .int .i64 0] 23)) fun e w' => ∃ t er what loc, e = .returned (.tuple #[.string t, er]) ∧ Kept (w.alloc (.cells #[.int .i64 0, .int .i64 0, .string { data := #[] }, .int .i64 0, .int .i64 0] 23)) w' ∧ Hid (Calls Tryz.prog 22 #[er] w' fun e w'' => e = .returned (faultVal what loc { data := #[] }) ∧ Kept w' w'') ∧ R t what loc)) :
    Calls Tryz.prog 8 #[.string s] w fun e w' => ∃ t what loc, e = .returned (.tuple #[.string t, faultVal what loc { data := #[] }]) ∧ R t what loc ∧ Kept w w' := by
  have hk0 : Kept w (w.alloc (.cells #[.int .i64 0, .int .i64 0, .string { data := #[] }, .int .i64 0, .int .i64 0] 23)) := Kept.alloc _ _
  have hb0 : (w.alloc (.cells #[.int .i64 0, .int .i64 0, .string { data := #[] }, .int .i64 0, .int .i64 0] 23)).heap[w.heap.size]? = some (.cells #[.int .i64 0, .int .i64 0, .string { data := #[] }, .int .i64 0, .int .i64 0] 23 (0, 0)) := heap_alloc_new _ _
  go_enter Tryz.func8, Tryz.ntmps8
  go_wp2_with fail
  refine Calls.mono HP.out ?_
  rintro e w1 ⟨t, er, what, loc, rfl, hk1, HF, hR⟩
  have hb1 := hk1.blk hb0
  have HR : Hid _ := hR
  clear HP hR
  go_wp2_with fail
  refine Calls.mono HF.out ?_
  rintro e w2 ⟨rfl, hk2⟩
  have hb2 := hk2.blk hb1
  have hK := (hk0.trans hk1).trans hk2
  clear HF
  have c0 : w2.cell? ⟨w.heap.size, 0, none⟩ = some (.int .i64 0) := by simp [World.cell?, hb2]
  have c1 : w2.cell? ⟨w.heap.size, 1, none⟩ = some (.int .i64 0) := by simp [World.cell?, hb2]
  have c2 : w2.cell? ⟨w.heap.size, 2, none⟩ = some (.string { data := #[] }) := by simp [World.cell?, hb2]
  have c3 : w2.cell? ⟨w.heap.size, 3, none⟩ = some (.int .i64 0) := by simp [World.cell?, hb2]
  have c4 : w2.cell? ⟨w.heap.size, 4, none⟩ = some (.int .i64 0) := by simp [World.cell?, hb2]
  have f0 : ∀ j, w2.frozen? ⟨w.heap.size, j, none⟩ = false := fun j => by simp [World.frozen?, hb2]
  unfold faultVal
  go_wp2_with fail
  obtain ⟨w5, hw5⟩ : ∃ w5, w5 = ((((w2.setCell ⟨w.heap.size, 0, none⟩ (.int .i64 what)).setCell ⟨w.heap.size, 1, none⟩ (.int .i64 loc)).setCell ⟨w.heap.size, 2, none⟩ (.string { data := #[] })).setCell ⟨w.heap.size, 3, none⟩ (.int .i64 0)).setCell ⟨w.heap.size, 4, none⟩ (.int .i64 0) := ⟨_, rfl⟩
  have hF : w5.heap[w.heap.size]? = some (.cells #[.int .i64 what, .int .i64 loc, .string { data := #[] }, .int .i64 0, .int .i64 0] 23 (0, 0)) := by
    rw [hw5]
    simp [World.setCell, hb2, Array.getElem?_modify]
  have hKF : Kept w w5 := by
    rw [hw5]
    refine ⟨hK.1, hK.2, by simpa using hK.3, fun q hq => ?_⟩
    have e : ∀ (W : World) (j : Nat) (v : Value), (W.setCell ⟨w.heap.size, j, none⟩ v).heap[q]? = W.heap[q]? := fun W j v => Below.heap_setCell _ _ _ q (by intro z; simp at z; omega)
    exact (e _ _ _).trans ((e _ _ _).trans ((e _ _ _).trans ((e _ _ _).trans ((e _ _ _).trans (hK.4 q hq)))))
  rw [← hw5]
  clear hw5
  have d0 : w5.cell? ⟨w.heap.size, 0, none⟩ = some (.int .i64 what) := by simp [World.cell?, hF]
  have d1 : w5.cell? ⟨w.heap.size, 1, none⟩ = some (.int .i64 loc) := by simp [World.cell?, hF]
  have d2 : w5.cell? ⟨w.heap.size, 2, none⟩ = some (.string { data := #[] }) := by simp [World.cell?, hF]
  have d3 : w5.cell? ⟨w.heap.size, 3, none⟩ = some (.int .i64 0) := by simp [World.cell?, hF]
  have d4 : w5.cell? ⟨w.heap.size, 4, none⟩ = some (.int .i64 0) := by simp [World.cell?, hF]
  exact bodyPost_ret (v := .tuple #[.string t, faultVal what loc { data := #[] }]) (by simp [results, Tryz.results8, go_sem, faultVal, d0, d1, d2, d3, d4]) rfl ⟨t, what, loc, rfl, HR.out, hKF⟩
/-- plain.Canon, against the document's reader. -/
theorem plcanon_any {A : Nat → Addr} {s : ByteArray} {L : List Tk} (hE : PEnv s tyWords L) (w : World) (hG : Glb A w) (n : Nat) (t : Ty) (names : List ByteArray) (K : Nat) (B : Int) (hM : arrowM L n [] 0 (-1) = some (t, names, K, B)) :
    Calls Tryz.prog 8 #[.string s] w fun e w' => Kept w w' ∧
      (0 ≤ needB L { data := #[101, 110, 100] } K B → e = .returned (.tuple #[.string { data := #[] }, faultVal 2 (needB L { data := #[101, 110, 100] } K B) { data := #[] }])) ∧
      (needB L { data := #[101, 110, 100] } K B < 0 → 120 < sz t → e = .returned (.tuple #[.string { data := #[] }, faultVal 8 0 { data := #[] }])) ∧
      (needB L { data := #[101, 110, 100] } K B < 0 → sz t ≤ 120 → e = .returned (.tuple #[.string (canT t), faultVal 0 0 { data := #[] }])) := by
  have hk0 : Kept w (w.alloc (.cells #[.int .i64 0, .int .i64 0, .string { data := #[] }, .int .i64 0, .int .i64 0] 23)) := Kept.alloc _ _
  have hG0 := hG.kept hk0
  generalize hW : w.alloc (.cells #[.int .i64 0, .int .i64 0, .string { data := #[] }, .int .i64 0, .int .i64 0] 23) = W at *
  have HP := ptype_any hE W hG0 n t names K B hM
  have key : Calls Tryz.prog 21 #[.string s] W fun e w' => ∃ tx er what loc, e = .returned (.tuple #[.string tx, er]) ∧ Kept W w' ∧ Hid (Calls Tryz.prog 22 #[er] w' fun e w'' => e = .returned (faultVal what loc { data := #[] }) ∧ Kept w' w'') ∧ ((0 ≤ needB L { data := #[101, 110, 100] } K B → tx = { data := #[] } ∧ what = 2 ∧ loc = needB L { data := #[101, 110, 100] } K B) ∧ (needB L { data := #[101, 110, 100] } K B < 0 → 120 < sz t → tx = { data := #[] } ∧ what = 8 ∧ loc = 0) ∧ (needB L { data := #[101, 110, 100] } K B < 0 → sz t ≤ 120 → tx = canT t ∧ what = 0 ∧ loc = 0)) := by
    by_cases hF : 0 ≤ needB L { data := #[101, 110, 100] } K B
    · have h1 := canon_err s W (fun T z w' => Kept W w' ∧ ∃ b l : Nat, needB L { data := #[101, 110, 100] } K B = l ∧ T = 83 ∧ z = .pointer (some ⟨b, 0, none⟩) ∧ w'.heap[b]? = some (.cells #[.int .i64 l] 94 (0, 0))) (HP.mono (fun e w' hp => by
        rcases hp.2 with ⟨b, l, e1, e2, e3⟩ | ⟨e1, _⟩ | ⟨e1, _⟩
        · exact ⟨_, _, e2, hp.1, b, l, e1, rfl, rfl, e3⟩
        · omega
        · omega))
      refine h1.mono ?_
      rintro e w' ⟨T, z, rfl, hR⟩
      obtain ⟨hK, b, l, e1, rfl, rfl, e3⟩ := hR.out
      refine ⟨{ data := #[] }, _, 2, l, rfl, hK, ?_, fun _ => ⟨rfl, rfl, e1.symm⟩, fun q => absurd hF (by omega), fun q => absurd hF (by omega)⟩
      exact (fault_syn w' (hG0.kept hK) ⟨b, 0, none⟩ l (by simp [World.cell?, e3])).mono (fun e w'' ⟨a1, a2⟩ => ⟨a1, Kept.below a2⟩)
    · by_cases hd : 120 < sz t
      · have h1 := canon_err s W (fun T z w' => Kept W w' ∧ T = 342 ∧ z = .pointer (some (A 4))) (HP.mono (fun e w' hp => by
          rcases hp.2 with ⟨b, l, e1, _⟩ | ⟨_, _, e2⟩ | ⟨_, e2, _⟩
          · omega
          · exact ⟨_, _, e2, hp.1, rfl, rfl⟩
          · omega))
        refine h1.mono ?_
        rintro e w' ⟨T, z, rfl, hR⟩
        obtain ⟨hK, rfl, rfl⟩ := hR.out
        exact ⟨{ data := #[] }, _, 8, 0, rfl, hK, fault_sen w' (hG0.kept hK) 4 (by omega), fun q => absurd q hF, fun _ _ => ⟨rfl, rfl, rfl⟩, fun _ q => absurd q (by omega)⟩
      · have h1 := canon_ok s W t (by omega) (HP.mono (fun e w' hp => by
          rcases hp.2 with ⟨b, l, e1, _⟩ | ⟨_, e2, _⟩ | ⟨_, _, v, vb, e2, e3, e4, e5, e6⟩
          · omega
          · omega
          · obtain ⟨ad, g1, g2, g3, g4⟩ := read_store e3 e6 e5 (fun c hc => (e4 c hc).2)
            exact ⟨v, ad, _, _, e2, g2, g3, g4, g1, hp.1⟩))
        refine h1.mono ?_
        rintro e w' ⟨rfl, hK⟩
        exact ⟨canT t, _, 0, 0, rfl, hK, (fault_nil w').mono (fun e w'' ⟨a1, a2⟩ => ⟨a1, Kept.below a2⟩), fun q => absurd q hF, fun _ q => absurd q hd, fun _ _ => ⟨rfl, rfl, rfl⟩⟩
  have := pl_canon s w (fun tx what loc => (0 ≤ needB L { data := #[101, 110, 100] } K B → tx = { data := #[] } ∧ what = 2 ∧ loc = needB L { data := #[101, 110, 100] } K B) ∧ (needB L { data := #[101, 110, 100] } K B < 0 → 120 < sz t → tx = { data := #[] } ∧ what = 8 ∧ loc = 0) ∧ (needB L { data := #[101, 110, 100] } K B < 0 → sz t ≤ 120 → tx = canT t ∧ what = 0 ∧ loc = 0)) (by rw [hW]; exact key)
  refine this.mono ?_
  rintro e w' ⟨tx, what, loc, rfl, ⟨h1, h2, h3⟩, hK⟩
  refine ⟨hK, fun q => ?_, fun q q2 => ?_, fun q q2 => ?_⟩
  · obtain ⟨rfl, rfl, rfl⟩ := h1 q; rfl
  · obtain ⟨rfl, rfl, rfl⟩ := h2 q q2; rfl
  · obtain ⟨rfl, rfl, rfl⟩ := h3 q q2; rfl
theorem plcanon_long {A : Nat → Addr} (s : ByteArray) (w : World) (hG : Glb A w) (h : 300 < s.size) (hm : s.size ≤ 9223372036854775807) :
    Calls Tryz.prog 8 #[.string s] w fun e w' => e = .returned (.tuple #[.string { data := #[] }, faultVal 1 0 { data := #[] }]) ∧ Kept w w' := by
  have hk0 : Kept w (w.alloc (.cells #[.int .i64 0, .int .i64 0, .string { data := #[] }, .int .i64 0, .int .i64 0] 23)) := Kept.alloc _ _
  have hG0 := hG.kept hk0
  generalize hW : w.alloc (.cells #[.int .i64 0, .int .i64 0, .string { data := #[] }, .int .i64 0, .int .i64 0] 23) = W at *
  have h1 := canon_err s W (fun T z w' => Kept W w' ∧ T = 342 ∧ z = .pointer (some (A 0))) ((ptype_long s W hG0 h hm).mono (fun e w' ⟨e1, e2⟩ => ⟨_, _, e1, e2, rfl, rfl⟩))
  have key : Calls Tryz.prog 21 #[.string s] W fun e w' => ∃ tx er what loc, e = .returned (.tuple #[.string tx, er]) ∧ Kept W w' ∧ Hid (Calls Tryz.prog 22 #[er] w' fun e w'' => e = .returned (faultVal what loc { data := #[] }) ∧ Kept w' w'') ∧ (tx = { data := #[] } ∧ what = 1 ∧ loc = 0) := by
    refine h1.mono ?_
    rintro e w' ⟨T, z, rfl, hR⟩
    obtain ⟨hK, rfl, rfl⟩ := hR.out
    exact ⟨{ data := #[] }, _, 1, 0, rfl, hK, fault_sen w' (hG0.kept hK) 0 (by omega), rfl, rfl, rfl⟩
  refine (pl_canon s w (fun tx what loc => tx = { data := #[] } ∧ what = 1 ∧ loc = 0) (by rw [hW]; exact key)).mono ?_
  rintro e w' ⟨tx, what, loc, rfl, ⟨rfl, rfl, rfl⟩, hK⟩
  exact ⟨rfl, hK⟩
end Go.Proofs.YtleenphlgbklmabGreatDoor

namespace Go.Proofs.YtleenphlgbklmabGreatDoor
open Go.RowKit

theorem Tryz.mkM (w : World) : (Instr.makeMap 99 none).run Tryz.prog w = .ok (.map (some w.heap.size)) (w.alloc (.map #[] 0)) := by kernel_rfl
set_option maxRecDepth 20000 in
theorem inst_err (s z : ByteArray) (w : World) (R : TypeId → Value → World → Prop) (HP : Hid (Calls Tryz.prog 35 #[.string s] w fun e w' => ∃ T u, e = .returned (.tuple #[.nilIface, .iface T u]) ∧ Hid (R T u w'))) :
    Calls Tryz.prog 23 #[.string s, .string z] w fun e w' => ∃ T u, e = .returned (.tuple #[.map none, .iface T u]) ∧ Hid (R T u w') := by
  go_enter Tryz.func23, Tryz.ntmps23
  go_wp2_with fail
  refine Calls.mono HP.out ?_
  rintro e w1 ⟨T, u, rfl, HR⟩
  clear HP
  go_wp2
  exact bodyPost_ret (v := .tuple #[.map none, .iface T u]) (by simp [results, Tryz.results23, go_sem]) rfl ⟨T, u, rfl, HR⟩
set_option maxRecDepth 20000 in
theorem inst_err2 (s z : ByteArray) (w : World) (Q : World → Prop) (R : TypeId → Value → World → Prop) (HP : Hid (Calls Tryz.prog 35 #[.string s] w fun e w' => ∃ T u, e = .returned (.tuple #[.iface T u, .nilIface]) ∧ Hid (Q w'))) (HP2 : Hid (∀ w1, Hid (Q w1) → Calls Tryz.prog 35 #[.string z] w1 fun e w' => ∃ T u, e = .returned (.tuple #[.nilIface, .iface T u]) ∧ Hid (R T u w'))) :
    Calls Tryz.prog 23 #[.string s, .string z] w fun e w' => ∃ T u, e = .returned (.tuple #[.map none, .iface T u]) ∧ Hid (R T u w') := by
  go_enter Tryz.func23, Tryz.ntmps23
  go_wp2_with fail
  refine Calls.mono HP.out ?_
  rintro e w1 ⟨T, u, rfl, HQ⟩
  have HP2 : Hid _ := HP2.out w1 HQ
  clear HP HQ
  go_wp2_with fail
  refine Calls.mono HP2.out ?_
  rintro e w2 ⟨T2, u2, rfl, HR⟩
  clear HP2
  go_wp2
  exact bodyPost_ret (v := .tuple #[.map none, .iface T2 u2]) (by simp [results, Tryz.results23, go_sem]) rfl ⟨T2, u2, rfl, HR⟩
set_option maxRecDepth 20000 in
set_option maxHeartbeats 1000000 in
theorem inst_no (s z : ByteArray) (w : World) (Q : Value → World → Prop) (Q2 : Value → Value → World → Prop) (R : World → Prop) (p : Addr) (HP : Hid (Calls Tryz.prog 35 #[.string s] w fun e w' => ∃ T u, e = .returned (.tuple #[.iface T u, .nilIface]) ∧ Hid (Q (.iface T u) w')))
    (HP2 : Hid (∀ w1 v, Hid (Q v w1) → Calls Tryz.prog 35 #[.string z] w1 fun e w' => ∃ T u, e = .returned (.tuple #[.iface T u, .nilIface]) ∧ Hid (Q2 v (.iface T u) w')))
    (HM : Hid (∀ w2 v x, Hid (Q2 v x w2) → Calls Tryz.prog 41 #[.map (some w2.heap.size), v, x] (w2.alloc (.map #[] 0)) fun e w' => e = .returned (.bool false) ∧ Hid (R w') ∧ w'.cell? ⟨7, 0, none⟩ = some (.iface 342 (.pointer (some p))))) :
    Calls Tryz.prog 23 #[.string s, .string z] w fun e w' => e = .returned (.tuple #[.map none, .iface 342 (.pointer (some p))]) ∧ ∃ w3 : World, w' = w3.drew ∧ Hid (R w3) := by
  go_enter Tryz.func23, Tryz.ntmps23
  go_wp2_with fail
  refine Calls.mono HP.out ?_
  rintro e w1 ⟨T, u, rfl, HQ⟩
  have HP2 : Hid _ := HP2.out w1 _ HQ
  clear HP HQ
  go_wp2_with fail
  refine Calls.mono HP2.out ?_
  rintro e w2 ⟨T2, u2, rfl, HQ2⟩
  have HM : Hid _ := HM.out w2 _ _ HQ2
  have m1 := Tryz.mkM w2
  clear HP2 HQ2
  go_wp2_with fail
  refine Calls.mono HM.out ?_
  rintro e w3 ⟨rfl, HR, hc⟩
  clear HM
  go_wp2_with fail
  go_region
  all_goals
    go_wp2
    exact bodyPost_ret (v := .tuple #[.map none, .iface 342 (.pointer (some p))]) (by simp [results, Tryz.results23, go_sem]) rfl ⟨rfl, w3, rfl, HR⟩
set_option maxRecDepth 20000 in
set_option maxHeartbeats 1000000 in
theorem inst_yes (s z : ByteArray) (w : World) (Q : Value → World → Prop) (Q2 : Value → Value → World → Prop) (R : Nat → World → Prop) (HP : Hid (Calls Tryz.prog 35 #[.string s] w fun e w' => ∃ T u, e = .returned (.tuple #[.iface T u, .nilIface]) ∧ Hid (Q (.iface T u) w')))
    (HP2 : Hid (∀ w1 v, Hid (Q v w1) → Calls Tryz.prog 35 #[.string z] w1 fun e w' => ∃ T u, e = .returned (.tuple #[.iface T u, .nilIface]) ∧ Hid (Q2 v (.iface T u) w')))
    (HM : Hid (∀ w2 v x, Hid (Q2 v x w2) → Calls Tryz.prog 41 #[.map (some w2.heap.size), v, x] (w2.alloc (.map #[] 0)) fun e w' => e = .returned (.bool true) ∧ Hid (R w2.heap.size w'))) :
    Calls Tryz.prog 23 #[.string s, .string z] w fun e w' => ∃ mb, e = .returned (.tuple #[.map (some mb), .nilIface]) ∧ Hid (R mb w') := by
  go_enter Tryz.func23, Tryz.ntmps23
  go_wp2_with fail
  refine Calls.mono HP.out ?_
  rintro e w1 ⟨T, u, rfl, HQ⟩
  have HP2 : Hid _ := HP2.out w1 _ HQ
  clear HP HQ
  go_wp2_with fail
  refine Calls.mono HP2.out ?_
  rintro e w2 ⟨T2, u2, rfl, HQ2⟩
  have HM : Hid _ := HM.out w2 _ _ HQ2
  have m1 := Tryz.mkM w2
  clear HP2 HQ2
  go_wp2_with fail
  refine Calls.mono HM.out ?_
  rintro e w3 ⟨rfl, HR⟩
  clear HM
  go_wp2
  exact bodyPost_ret (v := .tuple #[.map (some w2.heap.size), .nilIface]) (by simp [results, Tryz.results23, go_sem]) rfl ⟨_, rfl, HR⟩
end Go.Proofs.YtleenphlgbklmabGreatDoor

namespace Go.Proofs.YtleenphlgbklmabGreatDoor
open Go.RowKit Go.Maps Go.Sort Go.Shelf

shelf_lay_g SlLaysZ.n7 Ggz 7 at Tryz 25 as Tryz.keysT
shelf_lay_g SlLaysZ.n6 Ggz 6 at Tryz 24 as Tryz.sortedT
shelf_lay_g SlLaysM.n6 Slgm 6 at Tryz 43 as Tryz.sortT

theorem Tryz.sortsT (m : Nat) : AnyZ.SortsIn Tryz.prog Tryz.sortedT_ren Fence.wide m :=
  ⟨fun blk off cap ss W hH hblk hsz => callsIn_wide.2 (AnyM.slices_Sort_string Tryz.sortT blk off cap ss W hH hblk hsz),
   fun p cap W => callsIn_wide.2 (AnyM.slices_Sort_string_none Tryz.sortT p cap W)⟩

theorem Tryz.mapsKeysT (mb : Option Nat) (W : World) : CallsIn Fence.wide 5 Tryz.prog 25 #[.map mb] W fun e w' => e = .returned (.func (.func 44) #[] #[.pointer (some ⟨W.heap.size, 0, none⟩)]) ∧ w' = W.alloc (.cells #[.map mb] 60) :=
  AnyZ.keys_in Tryz.keysT Fence.wide 5 trivial rfl mb W

set_option maxHeartbeats 1000000 in
theorem Tryz.sortedKeysT {H : Type} (b nn : Nat) (D0 : DataW H) (R : Value → Option (DataW H × List MemPlace)) (w : World) (hown : w.ownsMap Tryz.prog 9 R b nn D0) (hmax : Maps.size D0 ≤ maxLen) (hbytes : Maps.size D0 * 16 ≤ 140737488355328) :
    CallsIn Fence.wide 5 Tryz.prog 24 #[.func (.func 44) #[] #[.pointer (some ⟨w.heap.size, 0, none⟩)]] (w.alloc (.cells #[.map (some b)] 60)) fun e w' => ∃ (v : Value) (ss : List (List UInt8)), e = .returned v ∧ ss.Perm (strKeys D0) ∧
      w'.ownsRow (w.alloc (.cells #[.map (some b)] 60)).heap.size 9 1 v ss.length ((ss.mergeSort (fun x y => decide (x ≤ y))).map encStr) ∧ (v = .slice none 0 0 ↔ ss = []) ∧ Below (w.alloc (.cells #[.map (some b)] 60)).heap.size (w.alloc (.cells #[.map (some b)] 60)) w' := by
  have hbl := hown.lt
  have hseq : SeqGives Fence.wide 2 Tryz.prog 44 #[.pointer (some ⟨w.heap.size, 0, none⟩)] encStr (fun ss => ss.Perm (strKeys D0)) (Maps.size D0) (w.alloc (.cells #[.map (some b)] 60)) :=
    AnyZ.keys_gives (ρ := Tryz.keysT_ren) { Tryz.keysT with } Fence.wide _ trivial rfl (by omega) w.heap.size b nn D0 _ (by simp) (by simp) (by
      obtain ⟨es, clock, hb, Ft, hs, hD⟩ := hown
      exact ⟨es, clock, (Below.heap_alloc _ _ b hbl).trans hb, Ft, hs, hD⟩)
  exact AnyZ.sorted_in Tryz.sortedT Fence.wide 5 trivial trivial trivial trivial rfl (by omega) (Tryz.sortsT _) (enters_of Tryz.func43 (by kernel_rfl) rfl) 44 #[.pointer (some ⟨w.heap.size, 0, none⟩)] trivial (enters_of Tryz.func44 (by kernel_rfl) rfl) _ _ hmax hbytes _ hseq

set_option maxHeartbeats 1000000 in
theorem Tryz.sortedNilT (w : World) :
    CallsIn Fence.wide 5 Tryz.prog 24 #[.func (.func 44) #[] #[.pointer (some ⟨w.heap.size, 0, none⟩)]] (w.alloc (.cells #[.map none] 60)) fun e w' => ∃ (v : Value) (ss : List (List UInt8)), e = .returned v ∧ ss = [] ∧
      w'.ownsRow (w.alloc (.cells #[.map none] 60)).heap.size 9 1 v ss.length ((ss.mergeSort (fun x y => decide (x ≤ y))).map encStr) ∧ (v = .slice none 0 0 ↔ ss = []) ∧ Below (w.alloc (.cells #[.map none] 60)).heap.size (w.alloc (.cells #[.map none] 60)) w' := by
  have hseq : SeqGives Fence.wide 2 Tryz.prog 44 #[.pointer (some ⟨w.heap.size, 0, none⟩)] encStr (fun ss : List (List UInt8) => ss = []) 0 (w.alloc (.cells #[.map none] 60)) :=
    AnyZ.keys_gives_nil (ρ := Tryz.keysT_ren) { Tryz.keysT with } Fence.wide _ trivial rfl w.heap.size _ (by simp) (by simp)
  exact AnyZ.sorted_in Tryz.sortedT Fence.wide 5 trivial trivial trivial trivial rfl (by omega) (Tryz.sortsT _) (enters_of Tryz.func43 (by kernel_rfl) rfl) 44 #[.pointer (some ⟨w.heap.size, 0, none⟩)] trivial (enters_of Tryz.func44 (by kernel_rfl) rfl) _ 0 (Nat.zero_le _) (by omega) _ hseq

/-- a map of texts, as the library's contracts name it. -/
theorem SM.owns {w : World} {mb : Nat} {kv : List (ByteArray × ByteArray)} (h : SM w mb kv) (hl : kv.length ≤ 1000) (hs : ∀ y, y ∈ kv → y.1.size ≤ maxLen) : ∃ D0 : DataW Unit, w.ownsMap Tryz.prog 9 (fun _ => some (.nil, [])) mb kv.length D0 ∧ (strKeys D0).Perm (kv.map fun y => y.1.data.toList) ∧ Maps.size D0 ≤ 1000 := by
  have hr : ∀ j, j < kv.length → (WideElems.rd (H := Unit) Tryz.prog 9 (fun _ => some (.nil, [])) (tEnt kv j)) = some (.string (kAt kv j).1.data.toList, .nil) := fun j hj => by
    have : kAt kv j ∈ kv := by simp [kAt, List.getD, hj]
    simp [WideElems.rd, tEnt, WideMaps.keyOf_string_mk Tryz.underlying9 (hs _ this)]
  have hfit : WideElems.Fit (H := Unit) Tryz.prog 9 (fun _ => some (.nil, [])) (tEs kv) kv.length := by
    refine ⟨?_, ⟨?_, ?_, ?_⟩, ?_⟩
    · simp [tEs, maxLen]
      omega
    · intro x hx
      simp [tEs] at hx
      obtain ⟨j, hj, rfl⟩ := hx
      exact hj
    · simp [tEs, List.map_map]
      have : (List.map ((fun x => x.born) ∘ tEnt kv) (List.range kv.length)) = List.range kv.length := by
        have e : ((fun x : MapEntry => x.born) ∘ tEnt kv) = id := rfl
        rw [e, List.map_id]
      rw [this]
      exact List.nodup_range
    · have e : ((tEs kv).toList.map (·.key)) = (kv.map Prod.fst).map Value.string := by
        apply List.ext_getElem
        · simp [tEs]
        · intro i h1 h2
          simp at h2
          simp [tEs, tEnt, kAt, List.getD, h2]
      rw [e]
      exact List.Pairwise.map _ (fun a b hab z => hab (by simpa using z)) h.nd
    · intro x hx
      simp [tEs] at hx
      obtain ⟨j, hj, rfl⟩ := hx
      exact ⟨_, hr j hj⟩
  have hmap : (tEs kv).toList.map (WideElems.rg (H := Unit) Tryz.prog 9 (fun _ => some (.nil, []))) = kv.map (fun y => (Lit.string y.1.data.toList, DataW.nil)) := by
    apply List.ext_getElem
    · simp [tEs]
    · intro i h1 h2
      simp at h2
      have := hr i h2
      simp [tEs, WideElems.rg, this]
      simp [kAt, List.getD, h2]
  refine ⟨_, ⟨tEs kv, kv.length, h.mp, hfit, by simp [tEs], rfl⟩, ?_, ?_⟩
  · rw [hmap]
    have := (WideShapes.sorted_perm (kv.map (fun y => ((Lit.string y.1.data.toList, DataW.nil) : Lit × DataW Unit)))).map (fun p => strOf p.1)
    rw [List.map_map] at this
    exact this
  · rw [hmap]
    have := (WideShapes.sorted_perm (kv.map (fun y => ((Lit.string y.1.data.toList, DataW.nil) : Lit × DataW Unit)))).length_eq
    rw [Maps.size_eq, this]
    simpa using hl
theorem keys_any (mb : Option Nat) (W : World) : Calls Tryz.prog 25 #[.map mb] W fun e w' => e = .returned (.func (.func 44) #[] #[.pointer (some ⟨W.heap.size, 0, none⟩)]) ∧ w' = W.alloc (.cells #[.map mb] 60) := callsIn_wide.1 (Tryz.mapsKeysT mb W)
end Go.Proofs.YtleenphlgbklmabGreatDoor
