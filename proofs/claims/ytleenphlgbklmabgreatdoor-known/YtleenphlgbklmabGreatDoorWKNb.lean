import Derived.Test.YtleenphlgbklmabGreatDoorWKNa
import Derived.Test.YtleenphlgbklmabGreatDoorWPHc
set_option linter.unusedVariables false
set_option linter.unusedSimpArgs false
namespace Go.Proofs.YtleenphlgbklmabGreatDoor
open Go.RowKit

theorem show_at {A : Nat → Addr} {s : ByteArray} {x : X} (hr : exO s = some x) (ht : tw x ≤ 1000000) (w : World) (hG : Glb A w) :
    Calls Tryz.prog 15 #[.string s] w fun e w' => e = .returned (.tuple #[.string (txt x), faultVal 0 0 { data := #[] }]) ∧ Kept w w' := by
  unfold exO at hr
  by_cases hs : 300 < s.size
  · rw [if_pos hs] at hr
    cases hr
  · rw [if_neg hs] at hr
    have hE : PEnv s wordsL (toksF s wordsL (s.size + 1) 0) := ⟨by omega, wordsOk, rfl⟩
    cases hM : expM (toksF s wordsL (s.size + 1) 0) 2000 0 (-1) with
    | none => rw [hM] at hr; cases hr
    | some q =>
      obtain ⟨x', K, B⟩ := q
      rw [hM] at hr
      simp only at hr
      split at hr
      · cases hr
      · rename_i hF
        split at hr
        · cases hr
        · rename_i hd
          simp only [Option.some.injEq] at hr
          subst hr
          refine (plshow_any hE w hG _ x' K B hM (fun _ => ht)).mono ?_
          rintro e w' ⟨hk, _, _, h3⟩
          exact ⟨h3 (by omega) (by omega), hk⟩
theorem kinf_at {A : Nat → Addr} {s : ByteArray} {o : IfO} (h : inferF true 6 s envS = some o) (hg : o.good) (w : World) (hG : Glb A w) :
    Calls Tryz.prog 16 #[.string s] w fun e w' => e = .returned (.tuple #[.string o.t, faultVal o.what o.loc o.s]) ∧ Kept w w' :=
  kinfer_sx (ki_hi w hG h hg (fun _ => scg_sx) (fun _ B gv f hf => sgr_no (by omega) f hf))
/-- what a lot asks. -/
def lotOk (l : Lot) : Bool := (match exO l.1 with | some x => bq (txt x) l.2.1 && decide (tw x ≤ 1000000) | none => false) && (match inferF true 6 l.1 envS with
  | some (.txt t) => l.2.2.2 == 0 && !(bq l.2.2.1 { data := #[] }) && bq (dsp t t.size) (dsp l.2.2.1 l.2.2.1.size) && decide (t.size ≤ 1000000) && decide (l.2.2.1.size ≤ 1000000)
  | some (.sen j) => decide (j < 8) && decide (senNo j = l.2.2.2) && !(l.2.2.2 == 0)
  | some (.unb loc n) => l.2.2.2 == 0 && bq l.2.2.1 { data := #[] } && decide (loc < l.2.1.size) && bq n (l.2.1.extract loc (loc + 1)) && ((loc == 0) == (l.2.1.size == 1)) && decide (l.2.1.size ≤ 1000000)
  | none => false)
set_option maxRecDepth 20000 in
theorem lot_all : lotL.all lotOk = true := by kernel_rfl
end Go.Proofs.YtleenphlgbklmabGreatDoor
