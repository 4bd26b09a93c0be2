import Derived.Test.YtleenphlgbklmabGreatDoorXKRa
import Derived.Test.YtleenphlgbklmabGreatDoorXTRm
import Derived.Test.YtleenphlgbklmabGreatDoorXPHb
set_option linter.unusedVariables false
set_option linter.unusedSimpArgs false
namespace Go.Proofs.YtleenphlgbklmabGreatDoor
open Go.RowKit

/-- what Show answers. -/
def showO (s : ByteArray) : Option (ByteArray × Int × Int) :=
  if 300 < s.size then none
  else match expM (toksF s wordsL (s.size + 1) 0) 2000 0 (-1) with
    | none => none
    | some (x, K, B) => if 0 ≤ needB (toksF s wordsL (s.size + 1) 0) { data := #[101, 110, 100] } K B then some ({ data := #[] }, 2, needB (toksF s wordsL (s.size + 1) 0) { data := #[101, 110, 100] } K B) else if tw x ≤ 1000000 then (if 40 < dp x then some ({ data := #[] }, 3, 0) else some (txt x, 0, 0)) else none
theorem plshow_at {A : Nat → Addr} {s t : ByteArray} {what loc : Int} (hr : showO s = some (t, what, loc)) (w : World) (hG : Glb A w) :
    Calls Tryz.prog 15 #[.string s] w fun e w' => e = .returned (.tuple #[.string t, faultVal what loc { data := #[] }]) ∧ Kept w w' := by
  unfold showO at hr
  by_cases hs : 300 < s.size
  · rw [if_pos hs] at hr
    cases hr
  · rw [if_neg hs] at hr
    have hE : PEnv s wordsL (toksF s wordsL (s.size + 1) 0) := ⟨by omega, wordsOk, rfl⟩
    cases hM : expM (toksF s wordsL (s.size + 1) 0) 2000 0 (-1) with
    | none => rw [hM] at hr; cases hr
    | some q =>
      obtain ⟨x, K, B⟩ := q
      rw [hM] at hr
      simp only at hr
      by_cases hF : 0 ≤ needB (toksF s wordsL (s.size + 1) 0) { data := #[101, 110, 100] } K B
      · rw [if_pos hF] at hr
        simp only [Option.some.injEq, Prod.mk.injEq] at hr
        obtain ⟨rfl, rfl, rfl⟩ := hr
        refine (plshow_any hE w hG _ x K B hM (fun z => by omega)).mono ?_
        rintro e w' ⟨hk, h1, _, _⟩
        exact ⟨h1 hF, hk⟩
      · rw [if_neg hF] at hr
        by_cases ht : tw x ≤ 1000000
        · rw [if_pos ht] at hr
          have HC := plshow_any hE w hG _ x K B hM (fun _ => ht)
          by_cases hd : 40 < dp x
          · rw [if_pos hd] at hr
            simp only [Option.some.injEq, Prod.mk.injEq] at hr
            obtain ⟨rfl, rfl, rfl⟩ := hr
            refine HC.mono ?_
            rintro e w' ⟨hk, _, h2, _⟩
            exact ⟨h2 (by omega) hd, hk⟩
          · rw [if_neg hd] at hr
            simp only [Option.some.injEq, Prod.mk.injEq] at hr
            obtain ⟨rfl, rfl, rfl⟩ := hr
            refine HC.mono ?_
            rintro e w' ⟨hk, _, _, h3⟩
            exact ⟨h3 (by omega) (by omega), hk⟩
        · rw [if_neg ht] at hr
          cases hr
/-- what is asked of an answer. -/
def askR (at' what loc : Int) (t : ByteArray) : Bool := if at' = -1 then decide (what = 0) && decide (loc = 0) && !(bq t { data := #[] }) else if at' = -2 then decide (what = 3) && decide (loc = 0) && bq t { data := #[] } else decide (what = 2) && decide (loc = at') && bq t { data := #[] }
def fltOk (l : Flt) : Bool := (match showO l.1 with | some (t, what, loc) => askR l.2.1 what loc t | none => false) && askR l.2.2 (fwO (rdO l.1)) (flO (rdO l.1)) (cnO (rdO l.1)) && decide (l.1.size ≤ 1000000)
set_option maxRecDepth 20000 in
theorem flt_all : fltL.all fltOk = true := by kernel_rfl
theorem flt_cell {w : World} {g j : Nat} (hb : w.heap[g]? = some (.cells fltC 51 (0, 0))) (hj : j < fltL.length) (i : Nat) (hi : i < 3) : w.cell? ⟨g, 3 * j + i, none⟩ = (fltV fltL[j])[i]? := by
  have := flatv_get fltV 3 (fun _ => rfl) fltL j i hj hi
  simp only [World.cell?, hb, fltC, fltCC, List.getElem?_toArray]
  exact this
set_option maxRecDepth 20000 in
set_option maxHeartbeats 1000000 in
theorem wrong_sx {at' what loc : Int} {t : ByteArray} (h : askR at' what loc t = true) (w : World) : Calls Tryz.prog 19 #[faultVal what loc { data := #[] }, .int .i64 at', .string t] w fun e w' => e = .returned (.bool true) ∧ Kept w w' := by
  unfold askR at h
  have hk : Kept w (w.alloc (.cells #[.int .i64 what, .int .i64 loc, .string { data := #[] }, .int .i64 0, .int .i64 0] 23)) := Kept.alloc _ _
  have hb := heap_alloc_new w (.cells #[.int .i64 what, .int .i64 loc, .string { data := #[] }, .int .i64 0, .int .i64 0] 23)
  have c0 : (w.alloc (.cells #[.int .i64 what, .int .i64 loc, .string { data := #[] }, .int .i64 0, .int .i64 0] 23)).cell? ⟨w.heap.size, 0, none⟩ = some (.int .i64 what) := cell_of hb rfl
  have c1 : (w.alloc (.cells #[.int .i64 what, .int .i64 loc, .string { data := #[] }, .int .i64 0, .int .i64 0] 23)).cell? ⟨w.heap.size, 1, none⟩ = some (.int .i64 loc) := cell_of hb rfl
  have HK : Hid _ := hk
  clear hk hb
  unfold faultVal
  by_cases h1 : at' = -1
  · rw [if_pos h1] at h
    simp only [Bool.and_eq_true, decide_eq_true_eq, Bool.not_eq_true'] at h
    obtain ⟨⟨rfl, rfl⟩, ht⟩ := h
    subst h1
    have ht' := tol_nz (t := t) (fun z => by rw [bq_iff.2 z] at ht; cases ht)
    clear ht
    go_enter Tryz.func19, Tryz.ntmps19
    go_wp2
    go_ret
    exact ⟨rfl, HK.out⟩
  · rw [if_neg h1] at h
    by_cases h2 : at' = -2
    · rw [if_pos h2] at h
      simp only [Bool.and_eq_true, decide_eq_true_eq] at h
      obtain ⟨⟨rfl, rfl⟩, ht⟩ := h
      obtain rfl := bq_iff.1 ht
      subst h2
      clear ht h1
      go_enter Tryz.func19, Tryz.ntmps19
      go_wp2
      go_ret
      exact ⟨rfl, HK.out⟩
    · rw [if_neg h2] at h
      simp only [Bool.and_eq_true, decide_eq_true_eq] at h
      obtain ⟨⟨rfl, rfl⟩, ht⟩ := h
      obtain rfl := bq_iff.1 ht
      clear ht
      go_enter Tryz.func19, Tryz.ntmps19
      go_wp2
      go_ret
      exact ⟨rfl, HK.out⟩
end Go.Proofs.YtleenphlgbklmabGreatDoor
